/-
  The contracts of the document's Same of rows of numbers, and of rows by places. The contract of the document's Whole of layer 9. The contracts of the document's Check, Bits, Access, Rank and Select, over that of its Whole. The contracts of the document's functions of layer 9, over rows by places as values.
-/
import Derived.Test.YtcaalcjcpddhaaaGreatS49
set_option linter.unusedVariables false
set_option linter.unusedSimpArgs false
set_option maxRecDepth 100000
namespace Go.Proofs.YtcaalcjcpddhaaaGreat
open Go.RowKit Num Bit
set_option maxHeartbeats 4000000 in
theorem isame_c9 (aN aW aM : Int) (ao : Option Addr) (ax : List Nat) (ac : Nat) (bN bW bM : Int) (bo : Option Addr) (bx : List Nat) (bc : Nat) (w : World) (hx : Wd w ao ax) (hy : Wd w bo bx) (hl : ax.length ≤ 1048576) :
  Calls Tryz.prog 106 #[.agg #[.int .i64 aN, .int .i64 aW, .int .i64 aM, .slice ao ax.length ac], .agg #[.int .i64 bN, .int .i64 bW, .int .i64 bM, .slice bo bx.length bc]] w fun e w' => e = .returned (.bool (decide (aN = bN) && (decide (aW = bW) && (decide (aM = bM) && decide (ax = bx))))) ∧ Below w.heap.size w w' := by
 obtain ⟨W, hW⟩ : ∃ W, W = (w.alloc (.cells #[.int .i64 aN, .int .i64 aW, .int .i64 aM, .slice ao ax.length ac] 30)).alloc (.cells #[.int .i64 bN, .int .i64 bW, .int .i64 bM, .slice bo bx.length bc] 30) := ⟨_, rfl⟩
 have bZ : Below w.heap.size w W := by rw [hW]; exact (below_alloc w _).alloc (by simp) _
 have B1 : Cel W w.heap.size [.int .i64 aN, .int .i64 aW, .int .i64 aM, .slice ao ax.length ac] 30 := by rw [hW]; exact (Cel.new w _ _).alloc _
 have B2 : Cel W (w.heap.size + 1) [.int .i64 bN, .int .i64 bW, .int .i64 bM, .slice bo bx.length bc] 30 := by rw [hW]; exact Cel.new2 w _ _ _
 have C1 : Hid (∀ w0, w0 = W → Calls Tryz.prog 94 #[.agg #[.int .i64 aM, .slice ao ax.length ac], .agg #[.int .i64 bM, .slice bo bx.length bc]] w0 fun e w' => e = .returned (.bool (decide (aM = bM) && decide (ax = bx))) ∧ Below w0.heap.size w0 w') := fun w0 h => by subst h; exact same_c aM ao ax ac bM bo bx bc w0 (hx.keep bZ) (hy.keep bZ) hl
 generalize (decide (aM = bM) && decide (ax = bx)) = z at *
 by_cases h1 : aN = bN
 ·by_cases h2 : aW = bW
  ·rw [decide_eq_true h1, decide_eq_true h2]
   subst h1 h2
   go_enter Tryz.func106, Tryz.ntmps106
   go_wp2_with fail
   rw [← hW]
   refine (C1.out _ rfl).mono ?_
   rintro e w1 ⟨rfl, hb⟩
   have bw := bZ.trans (hb.mono bZ.size)
   go_wp2
   go_ret
   exact ⟨by cases z <;> rfl, bw⟩
  ·rw [decide_eq_true h1, decide_eq_false h2]
   have e2 : (aW == bW) = false := by simpa using h2
   subst h1
   have bw : Below w.heap.size w ((w.alloc (.cells #[.int .i64 aN, .int .i64 aW, .int .i64 aM, .slice ao ax.length ac] 30)).alloc (.cells #[.int .i64 aN, .int .i64 bW, .int .i64 bM, .slice bo bx.length bc] 30)) := (below_alloc w _).alloc (by simp) _
   clear C1 B1 B2 bZ hW W
   go_enter Tryz.func106, Tryz.ntmps106
   go_wp2
   go_ret
   exact ⟨rfl, bw⟩
 ·rw [decide_eq_false h1]
  have e1 : (aN == bN) = false := by simpa using h1
  have bw : Below w.heap.size w ((w.alloc (.cells #[.int .i64 aN, .int .i64 aW, .int .i64 aM, .slice ao ax.length ac] 30)).alloc (.cells #[.int .i64 bN, .int .i64 bW, .int .i64 bM, .slice bo bx.length bc] 30)) := (below_alloc w _).alloc (by simp) _
  clear C1 B1 B2 bZ hW W
  go_enter Tryz.func106, Tryz.ntmps106
  go_wp2
  go_ret
  exact ⟨rfl, bw⟩
set_option maxHeartbeats 8000000 in
theorem f9same_c (aN aM ak aV aL : Int) (ao : Option Addr) (ax : List Nat) (ac : Nat) (aH : Int) (aq : Option Addr) (ay : List Nat) (ad : Nat) (bN bM bk bV bL : Int) (bo : Option Addr) (bx : List Nat) (bc : Nat) (bH : Int) (bq : Option Addr) (by_ : List Nat) (bd : Nat) (w : World) (hx : Wd w ao ax) (hbx : Wd w bo bx) (hy : Wd w aq ay) (hby : Wd w bq by_) (hl : ax.length ≤ 1048576) (hly : ay.length ≤ 1048576) :
  Calls Tryz.prog 93 #[.agg #[.int .i64 aN, .int .i64 aM, .int .i64 ak, .int .i64 aV, .int .i64 aL, .slice ao ax.length ac, .int .i64 aH, .slice aq ay.length ad], .agg #[.int .i64 bN, .int .i64 bM, .int .i64 bk, .int .i64 bV, .int .i64 bL, .slice bo bx.length bc, .int .i64 bH, .slice bq by_.length bd]] w fun e w' => e = .returned (.bool (decide (aN = bN) && (decide (aM = bM) && ((decide (ak = bk) && (decide (aV = bV) && (decide (aL = bL) && decide (ax = bx)))) && (decide (aH = bH) && decide (ay = by_)))))) ∧ Below w.heap.size w w' := by
 obtain ⟨W, hW⟩ : ∃ W, W = (w.alloc (.cells #[.int .i64 aN, .int .i64 aM, .int .i64 ak, .int .i64 aV, .int .i64 aL, .slice ao ax.length ac, .int .i64 aH, .slice aq ay.length ad] 34)).alloc (.cells #[.int .i64 bN, .int .i64 bM, .int .i64 bk, .int .i64 bV, .int .i64 bL, .slice bo bx.length bc, .int .i64 bH, .slice bq by_.length bd] 34) := ⟨_, rfl⟩
 have bZ : Below w.heap.size w W := by rw [hW]; exact (below_alloc w _).alloc (by simp) _
 have B1 : Cel W w.heap.size [.int .i64 aN, .int .i64 aM, .int .i64 ak, .int .i64 aV, .int .i64 aL, .slice ao ax.length ac, .int .i64 aH, .slice aq ay.length ad] 34 := by rw [hW]; exact (Cel.new w _ _).alloc _
 have B2 : Cel W (w.heap.size + 1) [.int .i64 bN, .int .i64 bM, .int .i64 bk, .int .i64 bV, .int .i64 bL, .slice bo bx.length bc, .int .i64 bH, .slice bq by_.length bd] 34 := by rw [hW]; exact Cel.new2 w _ _ _
 have C1 : Hid (∀ w0, w0 = W → Calls Tryz.prog 106 #[.agg #[.int .i64 ak, .int .i64 aV, .int .i64 aL, .slice ao ax.length ac], .agg #[.int .i64 bk, .int .i64 bV, .int .i64 bL, .slice bo bx.length bc]] w0 fun e w' => e = .returned (.bool (decide (ak = bk) && (decide (aV = bV) && (decide (aL = bL) && decide (ax = bx))))) ∧ Below w0.heap.size w0 w') := fun w0 h => by subst h; exact isame_c9 ak aV aL ao ax ac bk bV bL bo bx bc w0 (hx.keep bZ) (hbx.keep bZ) hl
 have C2 : Hid (∀ w0, Below w.heap.size w w0 → Calls Tryz.prog 94 #[.agg #[.int .i64 aH, .slice aq ay.length ad], .agg #[.int .i64 bH, .slice bq by_.length bd]] w0 fun e w' => e = .returned (.bool (decide (aH = bH) && decide (ay = by_))) ∧ Below w0.heap.size w0 w') := fun w0 h => same_c aH aq ay ad bH bq by_ bd w0 (hy.keep h) (hby.keep h) hly
 generalize (decide (ak = bk) && (decide (aV = bV) && (decide (aL = bL) && decide (ax = bx)))) = z1 at *
 generalize (decide (aH = bH) && decide (ay = by_)) = z2 at *
 clear hx hbx hy hby
 by_cases h1 : aN = bN
 ·have e1 : (aN == bN) = true := by simpa using h1
  by_cases h2 : aM = bM
  ·have e2 : (aM == bM) = true := by simpa using h2
   rw [decide_eq_true h1, decide_eq_true h2]
   clear h1 h2
   go_enter Tryz.func93, Tryz.ntmps93
   go_wp2_with fail
   rw [← hW]
   refine (C1.out _ rfl).mono ?_
   rintro e w1 ⟨rfl, hb⟩
   have bw := bZ.trans (hb.mono bZ.size)
   replace B1 := B1.kept hb
   replace B2 := B2.kept hb
   have p6 := B1.cell 6 rfl
   have p7 := B1.cell 7 rfl
   have q6 := B2.cell 6 rfl
   have q7 := B2.cell 7 rfl
   clear hb bZ hW C1
   cases z1 with
   | false =>
    go_wp2
    go_ret
    exact ⟨rfl, bw⟩
   | true =>
    go_wp2_with fail
    refine (C2.out _ bw).mono ?_
    rintro e w2 ⟨rfl, hb⟩
    have bw2 := bw.trans (hb.mono bw.size)
    clear hb
    go_wp2
    go_ret
    exact ⟨by cases z2 <;> rfl, bw2⟩
  ·have e2 : (aM == bM) = false := by simpa using h2
   rw [decide_eq_false h2]
   clear C1 C2 B1 B2 h1 h2
   go_enter Tryz.func93, Tryz.ntmps93
   go_wp2
   go_ret
   rw [← hW]
   exact ⟨by simp, bZ⟩
 ·have e1 : (aN == bN) = false := by simpa using h1
  rw [decide_eq_false h1]
  clear C1 C2 B1 B2 h1
  go_enter Tryz.func93, Tryz.ntmps93
  go_wp2
  go_ret
  rw [← hW]
  exact ⟨by simp, bZ⟩
end Go.Proofs.YtcaalcjcpddhaaaGreat
namespace Go.Proofs.YtcaalcjcpddhaaaGreat
open Go.RowKit Num Bit
theorem row9_c (N M k V LM : Int) (ao : Option Addr) (xs : List Nat) (cap : Nat) (H : Int) (qo : Option Addr) (ys : List Nat) (dap : Nat) (w : World) (hx : Wd w ao xs) (fx : Fit xs) (hy : Wd w qo ys) (fy : Fit ys) :
  Calls Tryz.prog 92 #[.agg #[.int .i64 N, .int .i64 M, .int .i64 k, .int .i64 V, .int .i64 LM, .slice ao xs.length cap, .int .i64 H, .slice qo ys.length dap]] w (ROut (fRow ⟨N, M, k, V, LM, xs, H, ys⟩) w) := by
 by_cases P : (0 ≤ N ∧ N ≤ 1048576 ∧ 0 ≤ M ∧ M ≤ N) ∧ ichk k V LM xs = true ∧ chk H ys = true
 ·obtain ⟨⟨p1, p2, p3, p4⟩, p5, p6⟩ := P
  obtain ⟨v1, v2, v3, v4, v5, v6, v7, v8⟩ := ichk_out _ _ _ _ p5
  obtain ⟨u1, u2, u3, u4⟩ := chk_out _ _ p6
  obtain ⟨n, rfl⟩ := Int.eq_ofNat_of_zero_le p1
  obtain ⟨mm, rfl⟩ := Int.eq_ofNat_of_zero_le p3
  obtain ⟨kn, rfl⟩ := Int.eq_ofNat_of_zero_le v3
  obtain ⟨vn, rfl⟩ := Int.eq_ofNat_of_zero_le (show 0 ≤ V by omega)
  obtain ⟨hh, rfl⟩ := Int.eq_ofNat_of_zero_le u1
  exact row9_main n mm kn vn hh LM ao xs cap qo ys dap w hx fx hy fy (by omega) (by omega) p5 p6
 ·rw [fRow_bad ⟨N, M, k, V, LM, xs, H, ys⟩ (fun h => P ⟨h.1, h.2.1, h.2.2.1⟩)]
  exact row9_bad N M k V LM H ao xs cap qo ys dap w hx fx hy fy P
def WO9 (N : Int) (X : List Nat) (S : Bool) (w : World) (e : Ending) (w' : World) : Prop := ∃ bo bc, e = .returned (.tuple #[.agg #[.int .i64 N, .slice bo X.length bc], .bool S]) ∧ Wd w' bo X ∧ X.length ≤ bc ∧ Below w.heap.size w w'
theorem fRow_n (a : FA) (l : List Nat) (h : fRow a = some l) : 0 ≤ a.N ∧ Rise l a.N.toNat := by
 unfold fRow at h
 simp only at h
 split at h
 ·rename_i c
  exact ⟨c.1.1, (fdec_len _ _ _ _ _ _ h).2⟩
 ·cases h
set_option maxHeartbeats 8000000 in
theorem f9whole_none (N M k V LM : Int) (ao : Option Addr) (xs : List Nat) (cap : Nat) (H : Int) (qo : Option Addr) (ys : List Nat) (dap : Nat) (w : World) (RC : Hid (∀ w0, Below w.heap.size w w0 → Calls Tryz.prog 92 #[.agg #[.int .i64 N, .int .i64 M, .int .i64 k, .int .i64 V, .int .i64 LM, .slice ao xs.length cap, .int .i64 H, .slice qo ys.length dap]] w0 fun e w' => e = .returned (.tuple #[.slice none 0 0, .bool false]) ∧ Below w0.heap.size w0 w')) :
  Calls Tryz.prog 71 #[.agg #[.int .i64 N, .int .i64 M, .int .i64 k, .int .i64 V, .int .i64 LM, .slice ao xs.length cap, .int .i64 H, .slice qo ys.length dap]] w fun e w' => e = .returned (.tuple #[.agg #[.int .i64 0, .slice none 0 0], .bool false]) ∧ Below w.heap.size w w' := by
 obtain ⟨W, hW⟩ : ∃ W, W = (w.alloc (.cells #[.int .i64 N, .int .i64 M, .int .i64 k, .int .i64 V, .int .i64 LM, .slice ao xs.length cap, .int .i64 H, .slice qo ys.length dap] 34)).alloc (.cells #[.int .i64 0, .slice none 0 0] 24) := ⟨_, rfl⟩
 have bW : Below w.heap.size w W := by rw [hW]; exact (below_alloc w _).alloc (by simp) _
 have B1 : Cel W w.heap.size [.int .i64 N, .int .i64 M, .int .i64 k, .int .i64 V, .int .i64 LM, .slice ao xs.length cap, .int .i64 H, .slice qo ys.length dap] 34 := by rw [hW]; exact (Cel.new w _ _).alloc _
 have B2 : Cel W (w.heap.size + 1) [.int .i64 0, .slice none 0 0] 24 := by rw [hW]; exact Cel.new2 w _ _ _
 go_enter Tryz.func71, Tryz.ntmps71
 go_wp2_with fail
 rw [← hW]
 refine (RC.out _ bW).mono ?_
 rintro e w1 ⟨rfl, hb⟩
 have bw1 := bW.trans (hb.mono bW.size)
 replace B2 := B2.kept hb
 clear hb bW hW RC B1
 go_wp2_with (refine store_cel (w.heap.size + 1) [.int .i64 0, .slice none 0 0] [.int .i64 0, .slice none 0 0] rfl rfl B2 rfl info_b2 (by simp [Value.oneCell']) ?_)
 intro w3 B3 O3
 have HZ := hide9 (And.intro B3 (bw1.trans (O3.below (Nat.le_succ _))))
 clear B3 O3 B2
 go_wp2
 (try simp only [Exit.inBlock, Exit.then])
 exact bodyPost_ret (result_cel rfl (w.heap.size + 1) _ rfl HZ.out.1 Tryz.underlying24 info_b2) rfl ⟨rfl, HZ.out.2⟩
set_option maxHeartbeats 16000000 in
theorem f9whole_some (n : Nat) (M k V LM : Int) (ao : Option Addr) (xs : List Nat) (cap : Nat) (H : Int) (qo : Option Addr) (ys : List Nat) (dap : Nat) (l : List Nat) (w : World) (hn : n ≤ 3000) (hr : Rise l n) (y1 y2 y3 y4 y5 y7 : Int) (y6 y8 : Nat) (S : Bool)
  (RC : Hid (∀ w0, Below w.heap.size w w0 → Calls Tryz.prog 92 #[.agg #[.int .i64 (n : Nat), .int .i64 M, .int .i64 k, .int .i64 V, .int .i64 LM, .slice ao xs.length cap, .int .i64 H, .slice qo ys.length dap]] w0 fun e w' => ∃ so sc, e = .returned (.tuple #[.slice so l.length sc, .bool true]) ∧ Nd w' so (lz l) ∧ l.length ≤ sc ∧ Below w0.heap.size w0 w'))
  (YP : World → Option Addr → Nat → Option Addr → Nat → Prop) (yk : ∀ w1 w2 yo yc zo zc, YP w1 yo yc zo zc → Below w1.heap.size w1 w2 → YP w2 yo yc zo zc)
  (OC : Hid (∀ w0 so sc, Nd w0 so (lz l) → Calls Tryz.prog 38 #[.int .i64 (n : Nat), .slice so l.length sc] w0 fun e w' => ∃ yo yc zo zc, e = .returned (.tuple #[.agg #[.int .i64 y1, .int .i64 y2, .int .i64 y3, .int .i64 y4, .int .i64 y5, .slice yo y6 yc, .int .i64 y7, .slice zo y8 zc], .int .i64 0]) ∧ YP w' yo yc zo zc ∧ Below w0.heap.size w0 w'))
  (SC : Hid (∀ w0 yo yc zo zc, Below w.heap.size w w0 → YP w0 yo yc zo zc → Calls Tryz.prog 93 #[.agg #[.int .i64 (n : Nat), .int .i64 M, .int .i64 k, .int .i64 V, .int .i64 LM, .slice ao xs.length cap, .int .i64 H, .slice qo ys.length dap], .agg #[.int .i64 y1, .int .i64 y2, .int .i64 y3, .int .i64 y4, .int .i64 y5, .slice yo y6 yc, .int .i64 y7, .slice zo y8 zc]] w0 fun e w' => e = .returned (.bool S) ∧ Below w0.heap.size w0 w')) :
  Calls Tryz.prog 71 #[.agg #[.int .i64 (n : Nat), .int .i64 M, .int .i64 k, .int .i64 V, .int .i64 LM, .slice ao xs.length cap, .int .i64 H, .slice qo ys.length dap]] w (WO9 (if S = true then (n : Int) else 0) (if S = true then rowOf n (isIn l) else []) S w) := by
 obtain ⟨i4, hi4, za4, zb4, zc4⟩ := info_parts info4_9
 obtain ⟨W, hW⟩ : ∃ W, W = (w.alloc (.cells #[.int .i64 (n : Nat), .int .i64 M, .int .i64 k, .int .i64 V, .int .i64 LM, .slice ao xs.length cap, .int .i64 H, .slice qo ys.length dap] 34)).alloc (.cells #[.int .i64 0, .slice none 0 0] 24) := ⟨_, rfl⟩
 have bW : Below w.heap.size w W := by rw [hW]; exact (below_alloc w _).alloc (by simp) _
 have B1 : Cel W w.heap.size [.int .i64 (n : Nat), .int .i64 M, .int .i64 k, .int .i64 V, .int .i64 LM, .slice ao xs.length cap, .int .i64 H, .slice qo ys.length dap] 34 := by rw [hW]; exact (Cel.new w _ _).alloc _
 have B2 : Cel W (w.heap.size + 1) [.int .i64 0, .slice none 0 0] 24 := by rw [hW]; exact Cel.new2 w _ _ _
 cases S with
 | false =>
  go_enter Tryz.func71, Tryz.ntmps71
  go_wp2_with fail
  rw [← hW]
  refine (RC.out _ bW).mono ?_
  rintro e w1 ⟨so, sc, rfl, hN, hsc, hb⟩
  have bw1 := bW.trans (hb.mono bW.size)
  replace B1 := B1.kept hb
  replace B2 := B2.kept hb
  have q0 := B1.cell 0 rfl
  clear hb bW hW RC
  go_wp2_with fail
  refine (OC.out _ _ _ hN).mono ?_
  rintro e w2 ⟨yo, yc, zo, zc, rfl, hY, hb⟩
  have bw2 := bw1.trans (hb.mono bw1.size)
  replace B1 := B1.kept hb
  replace B2 := B2.kept hb
  clear hb OC bw1 q0
  have bA := below_alloc w2 (.cells #[.int .i64 y1, .int .i64 y2, .int .i64 y3, .int .i64 y4, .int .i64 y5, .slice yo y6 yc, .int .i64 y7, .slice zo y8 zc] 34)
  have D6 := Cel.new w2 [.int .i64 y1, .int .i64 y2, .int .i64 y3, .int .i64 y4, .int .i64 y5, .slice yo y6 yc, .int .i64 y7, .slice zo y8 zc] 34
  have E1 := B1.kept bA
  have E2 := B2.kept bA
  have hY2 := yk _ _ _ _ _ _ hY bA
  have bw3 := bw2.trans (bA.mono bw2.size)
  clear B1 B2 hY bA
  go_wp2_with (first | refine load_obj w.heap.size _ (by rfl) rfl E1 Tryz.underlying34 info_f8 ?_ | refine load_obj w2.heap.size _ (by rfl) rfl D6 Tryz.underlying34 info_f8 ?_)
  refine (SC.out _ _ _ _ _ bw3 hY2).mono ?_
  rintro e w4 ⟨rfl, hb⟩
  have bw4 := bw3.trans (hb.mono bw3.size)
  replace E2 := E2.kept hb
  clear hb SC D6 E1 hY2 bw3
  go_wp2_with (refine store_cel (w.heap.size + 1) [.int .i64 0, .slice none 0 0] [.int .i64 0, .slice none 0 0] rfl rfl E2 rfl info_b2 (by simp [Value.oneCell']) ?_)
  intro w5 B3 O3
  have HZ := hide9 (And.intro B3 (bw4.trans (O3.below (Nat.le_succ _))))
  clear B3 O3 E2
  go_wp2
  (try simp only [Exit.inBlock, Exit.then])
  exact bodyPost_ret (result_cel rfl (w.heap.size + 1) _ rfl HZ.out.1 Tryz.underlying24 info_b2) rfl (show WO9 0 [] false w _ _ from ⟨none, 0, rfl, wd0' _ _, Nat.zero_le _, HZ.out.2⟩)
 | true =>
  have FR : Hid (∀ (w0 : World) (g : Nat), Cel w0 g (bvs n (isIn l)) 4 → Calls Tryz.prog 37 #[.slice (some ⟨g, 0, none⟩) n n] w0 fun e w' => ∃ g', e = .returned (.tuple #[.agg #[.int .i64 (n : Nat), .slice (some ⟨g', 0, none⟩) (rowOf n (isIn l)).length (rowOf n (isIn l)).length], .int .i64 0]) ∧ w0.heap.size ≤ g' ∧ Own w' g' (rowOf n (isIn l)) ∧ Below w0.heap.size w0 w') := fun w0 g h => by
   have hlen : (bls n (isIn l)).length = n := by simp [bls]
   have h3 := reffrom_ok (some ⟨g, 0, none⟩) (bls n (isIn l)) n _ w0 (bl_cel h) (by rw [hlen]; omega) rfl
   rw [fromS_all] at h3
   have e6 : frL (bls n (isIn l)) = rowOf n (isIn l) := by
    unfold frL
    rw [hlen]
    refine rowOf_congr n _ _ fun i hi => ?_
    unfold bt bls
    rw [List.getD_eq_getElem?_getD, List.getElem?_map, List.getElem?_range hi]
    rfl
   have e5 : (rowOf n (isIn l)).length = (n + 63) / 64 := length_rowOf _ _
   rw [hlen, e6] at h3
   rw [e5]
   exact h3
  generalize hYY : rowOf n (isIn l) = YY at *
  clear hYY
  go_enter Tryz.func71, Tryz.ntmps71
  go_wp2_with fail
  rw [← hW]
  refine (RC.out _ bW).mono ?_
  rintro e w1 ⟨so, sc, rfl, hN, hsc, hb⟩
  have bw1 := bW.trans (hb.mono bW.size)
  replace B1 := B1.kept hb
  replace B2 := B2.kept hb
  have q0 := B1.cell 0 rfl
  clear hb bW hW RC
  go_wp2_with fail
  refine (OC.out _ _ _ hN).mono ?_
  rintro e w2 ⟨yo, yc, zo, zc, rfl, hY, hb⟩
  have bw2 := bw1.trans (hb.mono bw1.size)
  replace B1 := B1.kept hb
  replace B2 := B2.kept hb
  replace hN := Nd.keep hN hb
  clear hb OC bw1 q0
  have bA := below_alloc w2 (.cells #[.int .i64 y1, .int .i64 y2, .int .i64 y3, .int .i64 y4, .int .i64 y5, .slice yo y6 yc, .int .i64 y7, .slice zo y8 zc] 34)
  have D6 := Cel.new w2 [.int .i64 y1, .int .i64 y2, .int .i64 y3, .int .i64 y4, .int .i64 y5, .slice yo y6 yc, .int .i64 y7, .slice zo y8 zc] 34
  have E1 := B1.kept bA
  have E2 := B2.kept bA
  have hY2 := yk _ _ _ _ _ _ hY bA
  have bw3 := bw2.trans (bA.mono bw2.size)
  replace hN := Nd.keep hN bA
  clear B1 B2 hY bA
  go_wp2_with (first | refine load_obj w.heap.size _ (by rfl) rfl E1 Tryz.underlying34 info_f8 ?_ | refine load_obj w2.heap.size _ (by rfl) rfl D6 Tryz.underlying34 info_f8 ?_)
  refine (SC.out _ _ _ _ _ bw3 hY2).mono ?_
  rintro e w4 ⟨rfl, hb⟩
  have bw4 := bw3.trans (hb.mono bw3.size)
  replace E1 := E1.kept hb
  replace E2 := E2.kept hb
  replace hN := Nd.keep hN hb
  clear hb SC D6 hY2 bw3 bw2
  have gl := E2.lt
  have q0 := E1.cell 0 rfl
  go_wp2_with (at_make; refine wpList_make_full _ rfl _ _ 82 rfl w4.heap.size 4 i4 (.bool false) 1 Tryz.underlying82 hi4 za4 zb4 .i64 .i64 _ _ n rfl rfl rfl rfl ?b2 ?b3 ?b4 ?_)
  case b2 => rw [zc4]; omega
  case b3 => unfold maxLen; omega
  case b4 => exact Nat.le_refl _
  intro w5 hown hgr
  have hB := bcel_made hown
  have bG : Below w4.heap.size w4 w5 := (Below.refl _ _).grown hgr (Nat.le_refl _) (fun k h => by cases h)
  replace E2 := E2.kept bG
  have bw5 := bw4.trans (bG.mono bw4.size)
  have bz := bw4.size
  clear hown hgr bw4 E1 q0
  have hN2 : Hid (∀ q, q < l.length → ∃ b off, so = some ⟨b, off, none⟩ ∧ b < w4.heap.size ∧ w5.cell? ⟨b, off + q, none⟩ = some (.int .i64 (gt l q : Nat))) := fun q hq => by
   obtain ⟨b, off, e, hbl, hcel⟩ := hN (by rw [length_lz]; omega)
   have h1 := hcel q (by rw [length_lz]; exact hq)
   rw [gi_lz] at h1
   exact ⟨b, off, e, hbl, (bG.cell (p := ⟨b, off + q, none⟩) hbl).trans h1⟩
  clear hN bG
  generalize w4.heap.size = g at *
  go_wp2
  go_loopw [9] (fun iv wr => ∃ q : Nat, q ≤ l.length ∧ iv = .int .i64 q ∧ Cel wr g (bvs n (isIn (l.take q))) 4 ∧ Only g w5 wr) (fun iv _ => l.length - (intOf iv).toNat)
  case atStart => exact ⟨0, Nat.zero_le _, rfl, by rw [bvs_congr n (isIn (l.take 0)) (fun _ => false) (fun i _ => by simp [isIn])]; exact hB, Only.refl _ _⟩
  case round =>
   obtain ⟨q, hq, rfl, hC, hOn⟩ := hrel
   by_cases hlt : q < l.length
   ·have hlt2 : (q : Int) < (l.length : Int) := by omega
    obtain ⟨b, off, rfl, hbl, hc5⟩ := hN2.out q hlt
    have cq : wr.cell? ⟨b, off + q, none⟩ = some (.int .i64 (gt l q : Nat)) := (World.cell?_of_block (w := w5) (hOn.block b (by omega))).trans hc5
    have xl := hr.1 q hlt
    have lln := hr.len
    have ql3 : q < 3000 := by omega
    clear lln
    have ST := hide9 (isIn_snoc (l.take q) (gt l q))
    have TK := hide9 (take_snoc' l q hlt)
    have cj := hC.cell (gt l q) (bvs_get _ _ _ xl)
    have fj := hC.frozen (gt l q)
    have st := hC.set (gt l q) (.bool true)
    rw [bvs_set] at st
    have HS : Hid (Cel (wr.setCell ⟨g, gt l q, none⟩ (.bool true)) g (bvs n (isIn (l.take (q + 1)))) 4 ∧ Only g w5 (wr.setCell ⟨g, gt l q, none⟩ (.bool true))) := by
     refine ⟨?_, hOn.set _ _⟩
     rw [TK.out, bvs_congr n _ _ (fun i _ => ST.out i)]
     exact st
    have xl2 : (gt l q : Int) < (n : Int) := by omega
    clear st hc5 hC hOn
    generalize gt l q = x at *
    go_wp2
    exact ⟨⟨q + 1, by omega, by go_num, HS.out.1, HS.out.2⟩, by simp only [intOf]; omega⟩
   ·obtain rfl : q = l.length := by omega
    rw [List.take_of_length_le (Nat.le_refl _)] at hC
    have F1 := hide9 (FR.out wr g hC)
    have E3 := hOn.cel E2 (by omega)
    have bw6 := bw5.trans (hOn.below (by omega))
    have e3l := E3.lt
    clear FR hC hOn hB E2 bw5
    go_wp2_with fail
    refine F1.out.mono ?_
    rintro e w6 ⟨g', rfl, hg', hO, hb⟩
    replace E3 := E3.kept hb
    have bw7 := bw6.trans (hb.mono bw6.size)
    clear hb F1
    have bA := below_alloc w6 (.cells #[.int .i64 (n : Nat), .slice (some ⟨g', 0, none⟩) YY.length YY.length] 24)
    have D7 := Cel.new w6 [.int .i64 (n : Nat), .slice (some ⟨g', 0, none⟩) YY.length YY.length] 24
    have E4 := E3.kept bA
    have hO2 := hO.keep bA
    have bw8 := bw7.trans (bA.mono bw7.size)
    have gx : g' ≠ w.heap.size + 1 := by omega
    clear E3 hO bA bw6 bw7
    go_wp2_with (first | refine load_cel w6.heap.size _ rfl D7 Tryz.underlying24 info_b2 ?_ | refine store_cel (w.heap.size + 1) [.int .i64 0, .slice none 0 0] _ rfl rfl E4 rfl info_b2 (by simp [Value.oneCell']) ?_)
    intro w9 B3 O3
    have hO3 : Own w9 g' YY := (O3.block g' gx).trans hO2
    have HZ := hide9 (And.intro B3 (And.intro hO3 (bw8.trans (O3.below (Nat.le_succ _)))))
    clear B3 O3 hO2 hO3 D7 E4 bw8
    go_wp2
    (try simp only [Exit.inBlock, Exit.then])
    exact bodyPost_ret (result_cel rfl (w.heap.size + 1) _ rfl HZ.out.1 Tryz.underlying24 info_b2) rfl (show WO9 (n : Int) YY true w _ _ from ⟨some ⟨g', 0, none⟩, YY.length, rfl, HZ.out.2.1.wd, Nat.le_refl _, HZ.out.2.2⟩)
end Go.Proofs.YtcaalcjcpddhaaaGreat
namespace Go.Proofs.YtcaalcjcpddhaaaGreat
open Go.RowKit Num Bit
set_option maxHeartbeats 2000000 in
theorem f9check_g (c0 c1 c2 c3 c4 c5 c6 c7 : Value) (ok : Bool) (N : Int) (X : List Nat) (w : World) (hf : Fit X) (hck : ok = true → chk N X = true) (C1 : Hid (∀ w0, Below w.heap.size w w0 → Calls Tryz.prog 71 #[.agg #[c0, c1, c2, c3, c4, c5, c6, c7]] w0 fun e w' => ∃ bo bc, e = .returned (.tuple #[.agg #[.int .i64 N, .slice bo X.length bc], .bool ok]) ∧ Wd w' bo X ∧ X.length ≤ bc ∧ Below w0.heap.size w0 w')) :
  Calls Tryz.prog 43 #[.agg #[c0, c1, c2, c3, c4, c5, c6, c7]] w fun e w' => e = .returned (.bool ok) ∧ Below w.heap.size w w' := by
 obtain ⟨W, hW⟩ : ∃ W, W = w.alloc (.cells #[c0, c1, c2, c3, c4, c5, c6, c7] 34) := ⟨_, rfl⟩
 have bW : Below w.heap.size w W := by rw [hW]; exact below_alloc w _
 go_enter Tryz.func43, Tryz.ntmps43
 go_wp2_with fail
 rw [← hW]
 refine (C1.out _ bW).mono ?_
 rintro e w1 ⟨bo, bc, rfl, hx, hbc, hb⟩
 have bw1 := bW.trans (hb.mono bW.size)
 clear hb C1
 have bA := below_alloc w1 (.cells #[.int .i64 N, .slice bo X.length bc] 24)
 have bw2 := bw1.trans (bA.mono bw1.size)
 go_wp2
 go_ret
 exact ⟨rfl, bw2⟩
end Go.Proofs.YtcaalcjcpddhaaaGreat
namespace Go.Proofs.YtcaalcjcpddhaaaGreat
open Go.RowKit Num Bit
theorem kOk_nat9 (a : RA9) (h : kOk9 a = true) : ∃ (n mm kn vn hh : Nat) (LM : Int) (xs ys : List Nat), a = ⟨n, mm, kn, vn, LM, xs, hh, ys⟩ := by
 obtain ⟨_, e⟩ := kOk_row a h
 rw [e]
 exact ⟨_, _, _, _, _, _, _, _, rfl⟩
theorem fSame_as (a b : FA) : (decide (a.N = b.N) && (decide (a.M = b.M) && ((decide (a.k = b.k) && (decide (a.V = b.V) && (decide (a.LM = b.LM) && decide (a.xs = b.xs)))) && (decide (a.H = b.H) && decide (a.ys = b.ys))))) = fSame a b := by
 unfold fSame
 simp only [Bool.and_assoc]
theorem f9whole_k (cs : List Value) (a : RA9) (w : World) (h : KI9 w cs a) :
  Calls Tryz.prog 71 #[.agg cs.toArray] w fun e w' => ∃ bo bc, e = .returned (.tuple #[.agg #[.int .i64 (kBN9 a), .slice bo (kBX9 a).length bc], .bool (kOk9 a)]) ∧ Wd w' bo (kBX9 a) ∧ (kBX9 a).length ≤ bc ∧ Below w.heap.size w w' := by
 obtain ⟨⟨ao, cap, qo, dap, rfl, _, a1, a2, a3, a4, a5, a6⟩, n3, xl, yl⟩ := h
 obtain ⟨N, M, k, V, LM, xs, H, ys⟩ := a
 dsimp only at *
 have RC := fun (w0 : World) (hb : Below w.heap.size w w0) => row9_c N M k V LM ao xs cap H qo ys dap w0 (a1.keep hb) a2 (a4.keep hb) a5
 cases hrow : fRow ⟨N, M, k, V, LM, xs, H, ys⟩ with
 | none =>
  rw [hrow] at RC
  have ok : kOk9 ⟨N, M, k, V, LM, xs, H, ys⟩ = false := by unfold kOk9; rw [hrow]
  have e1 : kBN9 ⟨N, M, k, V, LM, xs, H, ys⟩ = 0 := by unfold kBN9; rw [ok]; rfl
  have e2 : kBX9 ⟨N, M, k, V, LM, xs, H, ys⟩ = [] := by unfold kBX9; rw [ok]; rfl
  rw [ok, e1, e2]
  refine (f9whole_none N M k V LM ao xs cap H qo ys dap w RC).mono ?_
  rintro e w' ⟨rfl, hb⟩
  exact ⟨none, 0, rfl, wd0' _ _, Nat.zero_le _, hb⟩
 | some l =>
  rw [hrow] at RC
  obtain ⟨n0, hr⟩ := fRow_n _ l hrow
  dsimp only at n0 hr
  obtain ⟨n, rfl⟩ := Int.eq_ofNat_of_zero_le n0
  rw [Int.toNat_natCast] at hr
  have hn : n ≤ 3000 := by omega
  have ok : kOk9 ⟨n, M, k, V, LM, xs, H, ys⟩ = fSame ⟨n, M, k, V, LM, xs, H, ys⟩ (fOf n l) := by unfold kOk9; rw [hrow]; rfl
  have e0 : kRow ⟨n, M, k, V, LM, xs, H, ys⟩ = l := by unfold kRow; rw [hrow]; rfl
  have e1 : kBN9 ⟨n, M, k, V, LM, xs, H, ys⟩ = if kOk9 ⟨n, M, k, V, LM, xs, H, ys⟩ = true then (n : Int) else 0 := rfl
  have e2 : kBX9 ⟨n, M, k, V, LM, xs, H, ys⟩ = if kOk9 ⟨n, M, k, V, LM, xs, H, ys⟩ = true then rowOf n (isIn l) else [] := by unfold kBX9; rw [e0]; rfl
  rw [e1, e2]
  refine f9whole_some n M k V LM ao xs cap H qo ys dap l w hn hr (fOf n l).N (fOf n l).M (fOf n l).k (fOf n l).V (fOf n l).LM (fOf n l).H (fOf n l).xs.length (fOf n l).ys.length _ RC (fun w0 yo yc zo zc => Wd w0 yo (fOf n l).xs ∧ Wd w0 zo (fOf n l).ys) (fun w1 w2 yo yc zo zc h hb => ⟨h.1.keep hb, h.2.keep hb⟩) ?_ ?_
  ·intro w0 so sc hN
   refine (of9_c n so l sc w0 hN hr hn).mono ?_
   rintro e w' ⟨bo, bc, qo', qc, rfl, ⟨h1, _, h2, _⟩, hb⟩
   exact ⟨bo, bc, qo', qc, rfl, ⟨h1, h2⟩, hb⟩
  ·intro w0 yo yc zo zc hb hY
   have := f9same_c (n : Int) M k V LM ao xs cap H qo ys dap (fOf n l).N (fOf n l).M (fOf n l).k (fOf n l).V (fOf n l).LM yo (fOf n l).xs yc (fOf n l).H zo (fOf n l).ys zc w0 (a1.keep hb) hY.1 (a4.keep hb) hY.2 xl yl
   rw [fSame_as ⟨n, M, k, V, LM, xs, H, ys⟩ (fOf n l), ← ok] at this
   exact this
theorem f9check_k (cs : List Value) (a : RA9) (w : World) (h : KI9 w cs a) :
  Calls Tryz.prog 43 #[.agg cs.toArray] w fun e w' => e = .returned (.bool (kOk9 a)) ∧ Below w.heap.size w w' := by
 have W := fun (w0 : World) (hb : Below w.heap.size w w0) => f9whole_k cs a w0 (h.keep hb)
 obtain ⟨⟨ao, cap, qo, dap, rfl, _⟩, _⟩ := h
 exact f9check_g _ _ _ _ _ _ _ _ (kOk9 a) (kBN9 a) (kBX9 a) w (kB_fit9 a) (kB_chk9 a) W
set_option maxHeartbeats 4000000 in
theorem f9size_k (cs : List Value) (a : RA9) (w : World) (h : KI9 w cs a) :
  Calls Tryz.prog 18 #[.agg cs.toArray] w fun e w' => e = .returned (.int .i64 (kZ9 a)) ∧ Below w.heap.size w w' := by
 have C := fun (w0 : World) (hb : Below w.heap.size w w0) => f9check_k cs a w0 (h.keep hb)
 obtain ⟨⟨ao, cap, qo, dap, rfl, _⟩, _, _, _⟩ := h
 obtain ⟨N, M, k, V, LM, xs, H, ys⟩ := a
 dsimp only at *
 obtain ⟨Z, hZ⟩ : ∃ Z, Hid (Z = kZ9 ⟨N, M, k, V, LM, xs, H, ys⟩) := ⟨_, rfl⟩
 rw [← hZ.out]
 obtain ⟨W, hW⟩ : ∃ W, W = w.alloc (.cells #[.int .i64 N, .int .i64 M, .int .i64 k, .int .i64 V, .int .i64 LM, .slice ao xs.length cap, .int .i64 H, .slice qo ys.length dap] 34) := ⟨_, rfl⟩
 have bW : Below w.heap.size w W := by rw [hW]; exact below_alloc w _
 have B1 : Cel W w.heap.size [.int .i64 N, .int .i64 M, .int .i64 k, .int .i64 V, .int .i64 LM, .slice ao xs.length cap, .int .i64 H, .slice qo ys.length dap] 34 := by rw [hW]; exact Cel.new w _ _
 have CH : Hid (∀ w0, Below w.heap.size w w0 → Calls Tryz.prog 43 #[.agg #[.int .i64 N, .int .i64 M, .int .i64 k, .int .i64 V, .int .i64 LM, .slice ao xs.length cap, .int .i64 H, .slice qo ys.length dap]] w0 fun e w' => e = .returned (.bool (kOk9 ⟨N, M, k, V, LM, xs, H, ys⟩)) ∧ Below w0.heap.size w0 w') := C
 clear C
 cases hk : kOk9 ⟨N, M, k, V, LM, xs, H, ys⟩ with
 | false =>
  rw [hk] at CH
  have E : Hid (Z = 0) := by
   show Z = 0
   rw [hZ.out]
   unfold kZ9
   rw [hk]
   rfl
  clear hk hZ
  go_enter Tryz.func18, Tryz.ntmps18
  go_wp2_with fail
  rw [← hW]
  refine (CH.out _ bW).mono ?_
  rintro e w1 ⟨rfl, hb⟩
  have bw1 := bW.trans (hb.mono bW.size)
  clear hW
  go_wp2
  go_ret
  rw [E.out]
  exact ⟨rfl, bw1⟩
 | true =>
  rw [hk] at CH
  have E : Hid (Z = LM + H + 64) := by
   show Z = _
   rw [hZ.out]
   unfold kZ9
   rw [if_pos hk]
  obtain ⟨n, mm, kn, vn, hh, LM', xs', ys', e⟩ := kOk_nat9 _ hk
  simp only [FA.mk.injEq] at e
  obtain ⟨rfl, rfl, rfl, rfl, rfl, rfl, rfl, rfl⟩ := e
  obtain ⟨F, _⟩ := ok_fits n mm kn vn hh LM xs ys hk
  obtain ⟨_, _, _, _, _, m1, m2, _⟩ := ichk_out _ _ _ _ F.ik
  obtain ⟨l1, l2, _, _⟩ := chk_out _ _ F.ck
  clear hk hZ F
  go_enter Tryz.func18, Tryz.ntmps18
  go_wp2_with fail
  rw [← hW]
  refine (CH.out _ bW).mono ?_
  rintro e w1 ⟨rfl, hb⟩
  have bw1 := bW.trans (hb.mono bW.size)
  replace B1 := B1.kept hb
  have r4 := B1.cell 4 rfl
  have r6 := B1.cell 6 rfl
  clear hW hb
  go_wp2
  go_ret
  rw [E.out]
  exact ⟨rfl, bw1⟩
end Go.Proofs.YtcaalcjcpddhaaaGreat
