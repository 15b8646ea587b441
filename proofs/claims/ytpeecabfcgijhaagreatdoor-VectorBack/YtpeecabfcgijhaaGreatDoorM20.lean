/-
  The contract of the program's fits.
-/
import Derived.Test.YtpeecabfcgijhaaGreatDoorM19
namespace Go.Proofs.YtpeecabfcgijhaaGreatDoor
open Go.RowKit Num Bit Bn
set_option linter.unusedVariables false
set_option linter.unusedSimpArgs false
set_option maxRecDepth 100000

def fitB (a : RA8) : Bool := decide ((0 ≤ a.N ∧ a.N ≤ 1048576) ∧ ichk a.k a.V a.M a.xs = true ∧ chk a.L a.ys = true ∧ a.V = 4 ∧ a.k = (nb a.N.toNat : Int) ∧ a.S.length = gN a.N.toNat ∧ a.T.length = gN a.N.toNat)
set_option maxHeartbeats 16000000 in
theorem qfits_c (cs : List Value) (a : RA8) (w : World) (h : KI8 w cs a) :
  Calls Tryz.prog 108 #[.agg cs.toArray] w fun e w' => e = .returned (.bool (fitB a)) ∧ Below w.heap.size w w' := by
 obtain ⟨⟨ao, cap, qo, dap, so, sc, tO, tc, rfl, _, a1, a2, a3, a4, a5, a6, a7, a8, a9, a10⟩, xl, yl, sl, tl⟩ := h
 obtain ⟨N, k, V, M, xs, L, ys, S, T⟩ := a
 dsimp only at *
 have HIc : Hid (∀ w0, Below w.heap.size w w0 → Calls Tryz.prog 157 #[.agg #[.int .i64 k, .int .i64 V, .int .i64 M, .slice ao xs.length cap]] w0 fun e w' => e = .returned (.bool (ichk k V M xs)) ∧ Below w0.heap.size w0 w') := fun w0 hb => icheck_c k V M ao xs cap w0 (a1.keep hb)
 have HBc : Hid (∀ w0, Below w.heap.size w w0 → Calls Tryz.prog 64 #[.agg #[.int .i64 L, .slice qo ys.length dap]] w0 fun e w' => e = .returned (.bool (chk L ys)) ∧ Below w0.heap.size w0 w') := fun w0 hb => check_c L qo ys dap w0 (a4.keep hb)
 obtain ⟨W, hW⟩ : ∃ W, W = w.alloc (.cells #[.int .i64 N, .int .i64 k, .int .i64 V, .int .i64 M, .slice ao xs.length cap, .int .i64 L, .slice qo ys.length dap, .slice so S.length sc, .slice tO T.length tc] 33) := ⟨_, rfl⟩
 have bW : Below w.heap.size w W := by rw [hW]; exact below_alloc w _
 have B1 : Cel W w.heap.size [.int .i64 N, .int .i64 k, .int .i64 V, .int .i64 M, .slice ao xs.length cap, .int .i64 L, .slice qo ys.length dap, .slice so S.length sc, .slice tO T.length tc] 33 := by rw [hW]; exact Cel.new w _ _
 clear a1 a2 a3 a4 a5 a6 a7 a8 a9 a10
 obtain ⟨B, hB⟩ : ∃ B, Hid (B = fitB ⟨N, k, V, M, xs, L, ys, S, T⟩) := ⟨_, rfl⟩
 rw [← hB.out]
 by_cases n0 : N < 0
 ·obtain rfl : B = false := by
   rw [hB.out]; unfold fitB; dsimp only
   exact decide_eq_false fun h => by omega
  clear hB HIc HBc B1
  go_enter Tryz.func108, Tryz.ntmps108
  go_wp2
  go_ret
  rw [← hW]
  exact ⟨rfl, bW⟩
 by_cases n1 : 1048576 < N
 ·obtain rfl : B = false := by
   rw [hB.out]; unfold fitB; dsimp only
   exact decide_eq_false fun h => by omega
  clear hB HIc HBc B1
  go_enter Tryz.func108, Tryz.ntmps108
  go_wp2
  go_ret
  rw [← hW]
  exact ⟨rfl, bW⟩
 obtain ⟨m, rfl⟩ := Int.eq_ofNat_of_zero_le (show 0 ≤ N by omega)
 have hm : m ≤ 1048576 := by omega
 have hm2 : (m : Int) ≤ 1048576 := by omega
 cases hk : ichk k V M xs with
 | false =>
  obtain rfl : B = false := by
   rw [hB.out]; unfold fitB; dsimp only
   exact decide_eq_false fun h => by rw [hk] at h; simp at h
  rw [hk] at HIc
  clear hB HBc hk
  go_enter Tryz.func108, Tryz.ntmps108
  go_wp2_with fail
  rw [← hW]
  refine (HIc.out _ bW).mono ?_
  rintro e w1 ⟨rfl, hb⟩
  have bw1 := bW.trans (hb.mono bW.size)
  clear hW hb
  go_wp2
  go_ret
  exact ⟨rfl, bw1⟩
 | true =>
 rw [hk] at HIc
 cases hc : chk L ys with
 | false =>
  obtain rfl : B = false := by
   rw [hB.out]; unfold fitB; dsimp only
   exact decide_eq_false fun h => by rw [hc] at h; simp at h
  rw [hc] at HBc
  clear hB hk hc
  go_enter Tryz.func108, Tryz.ntmps108
  go_wp2_with fail
  rw [← hW]
  refine (HIc.out _ bW).mono ?_
  rintro e w1 ⟨rfl, hb⟩
  have bw1 := bW.trans (hb.mono bW.size)
  replace B1 := B1.kept hb
  have c5 := B1.cell 5 rfl
  have c6 := B1.cell 6 rfl
  clear hW hb
  go_wp2_with fail
  refine (HBc.out _ bw1).mono ?_
  rintro e w2 ⟨rfl, hb⟩
  have bw2 := bw1.trans (hb.mono bw1.size)
  clear hb
  go_wp2
  go_ret
  exact ⟨rfl, bw2⟩
 | true =>
 rw [hc] at HBc
 have HN : Hid (∀ w0, Calls Tryz.prog 123 #[.int .i64 (m : Int)] w0 fun e w' => e = .returned (.int .i64 (nb m : Nat)) ∧ w' = w0) := fun w0 => qblocks_c m hm w0
 have nbl := nb_le m hm
 have HGr : Hid (∀ w0, Calls Tryz.prog 126 #[.int .i64 (nb m : Nat)] w0 fun e w' => e = .returned (.int .i64 (gN m : Nat)) ∧ w' = w0) := fun w0 => qgroups_c (nb m) (by omega) w0
 have HB2 : Hid (B = decide (V = 4 ∧ k = (nb m : Int) ∧ S.length = gN m ∧ T.length = gN m)) := by
  show B = _
  rw [hB.out]; unfold fitB; dsimp only
  rw [Int.toNat_natCast]
  exact decide_eq_decide.2 ⟨fun h => h.2.2.2, fun h => ⟨by omega, hk, hc, h⟩⟩
 have gl : gN m ≤ 1048576 := by unfold gN; omega
 clear hB hk hc
 generalize nb m = nbm at *
 generalize gN m = G at *
 go_enter Tryz.func108, Tryz.ntmps108
 go_wp2_with fail
 rw [← hW]
 refine (HIc.out _ bW).mono ?_
 rintro e w1 ⟨rfl, hb⟩
 have bw1 := bW.trans (hb.mono bW.size)
 replace B1 := B1.kept hb
 have c5 := B1.cell 5 rfl
 have c6 := B1.cell 6 rfl
 clear hW hb HIc bW
 go_wp2_with fail
 refine (HBc.out _ bw1).mono ?_
 rintro e w2 ⟨rfl, hb⟩
 have bw2 := bw1.trans (hb.mono bw1.size)
 replace B1 := B1.kept hb
 have c0 := B1.cell 0 rfl
 clear hb HBc bw1 c5 c6
 go_wp2_with fail
 refine (HN.out _).mono ?_
 rintro e w3 ⟨rfl, rfl⟩
 go_wp2_with fail
 refine (HGr.out _).mono ?_
 rintro e w3 ⟨rfl, rfl⟩
 clear c0
 go_wp2
 refine region_g [] (fun w' => Cel w' w.heap.size [.int .i64 (m : Int), .int .i64 k, .int .i64 V, .int .i64 M, .slice ao xs.length cap, .int .i64 L, .slice qo ys.length dap, .slice so S.length sc, .slice tO T.length tc] 33) (by kernel_rfl) ?_
 have hS : Cel w3.drew w.heap.size [.int .i64 (m : Int), .int .i64 k, .int .i64 V, .int .i64 M, .slice ao xs.length cap, .int .i64 L, .slice qo ys.length dap, .slice so S.length sc, .slice tO T.length tc] 33 := B1
 have bV : Below w.heap.size w w3.drew := bw2.drew
 generalize w3.drew = Y at *
 clear B1 bw2
 by_cases v : V = 4
 ·have v2 : (V == 4) = true := by simpa using v
  by_cases kk : k = (nbm : Int)
  ·have kk2 : (k == (nbm : Int)) = true := by simpa using kk
   by_cases s : S.length = G
   ·have s2 : ((S.length : Int) == (G : Int)) = true := by simp [s]
    by_cases t : T.length = G
    ·have t2 : ((T.length : Int) == (G : Int)) = true := by simp [t]
     obtain rfl : B = true := by
      rw [HB2.out]
      exact decide_eq_true ⟨v, kk, s, t⟩
     clear HB2 v kk s t
     refine AnyG.take 0 (v := ?vv1) rfl (by kernel_rfl) (by kernel_rfl) (by kernel_rfl) (by kernel_rfl) (fun _ _ _ h => h) hS ?hy1 (by rfl) ?rest1
     case hy1 =>
      intro w0 h0
      go_simp
      try with_reducible rfl
     simp only [Act.put, yq0, yq1, yq2, yq3, yq4, yq5]
     refine AnyG.take 1 (v := ?vv2) rfl (by kernel_rfl) (by kernel_rfl) (by kernel_rfl) (by kernel_rfl) (fun _ _ _ h => h) hS ?hy2 (by rfl) ?rest2
     case hy2 =>
      intro w0 h0
      go_simp
      try with_reducible rfl
     simp only [Act.put, yq0, yq1, yq2, yq3, yq4, yq5]
     refine AnyG.take 2 (v := ?vv3) rfl (by kernel_rfl) (by kernel_rfl) (by kernel_rfl) (by kernel_rfl) (fun _ _ _ h => h) hS ?hy3 (by rfl) ?rest3
     case hy3 =>
      intro w0 h0
      have c0 := h0.cell 2 rfl
      go_simp
      try with_reducible rfl
     simp only [Act.put, yq0, yq1, yq2, yq3, yq4, yq5]
     refine AnyG.take 3 (v := ?vv4) rfl (by kernel_rfl) (by kernel_rfl) (by kernel_rfl) (by kernel_rfl) (fun _ _ _ h => h) hS ?hy4 (by rfl) ?rest4
     case hy4 =>
      intro w0 h0
      go_simp
      try with_reducible rfl
     simp only [Act.put, yq0, yq1, yq2, yq3, yq4, yq5]
     refine AnyG.take 4 (v := ?vv5) rfl (by kernel_rfl) (by kernel_rfl) (by kernel_rfl) (by kernel_rfl) (fun _ _ _ h => h) hS ?hy5 (by rfl) ?rest5
     case hy5 =>
      intro w0 h0
      go_simp
      try with_reducible rfl
     simp only [Act.put, yq0, yq1, yq2, yq3, yq4, yq5]
     refine AnyG.take 5 (v := ?vv6) rfl (by kernel_rfl) (by kernel_rfl) (by kernel_rfl) (by kernel_rfl) (fun _ _ _ h => h) hS ?hy6 (by rfl) ?rest6
     case hy6 =>
      intro w0 h0
      go_simp
      try with_reducible rfl
     simp only [Act.put, yq0, yq1, yq2, yq3, yq4, yq5]
     refine AnyG.take 6 (v := ?vv7) rfl (by kernel_rfl) (by kernel_rfl) (by kernel_rfl) (by kernel_rfl) (fun _ _ _ h => h) hS ?hy7 (by rfl) ?rest7
     case hy7 =>
      intro w0 h0
      go_simp
      try with_reducible rfl
     simp only [Act.put, yq0, yq1, yq2, yq3, yq4, yq5]
     refine AnyG.take 7 (v := ?vv8) rfl (by kernel_rfl) (by kernel_rfl) (by kernel_rfl) (by kernel_rfl) (fun _ _ _ h => h) hS ?hy8 (by rfl) ?rest8
     case hy8 =>
      intro w0 h0
      have c0 := h0.cell 1 rfl
      go_simp
      try with_reducible rfl
     simp only [Act.put, yq0, yq1, yq2, yq3, yq4, yq5]
     refine AnyG.take 8 (v := ?vv9) rfl (by kernel_rfl) (by kernel_rfl) (by kernel_rfl) (by kernel_rfl) (fun _ _ _ h => h) hS ?hy9 (by rfl) ?rest9
     case hy9 =>
      intro w0 h0
      go_simp
      try with_reducible rfl
     simp only [Act.put, yq0, yq1, yq2, yq3, yq4, yq5]
     refine AnyG.take 9 (v := ?vv10) rfl (by kernel_rfl) (by kernel_rfl) (by kernel_rfl) (by kernel_rfl) (fun _ _ _ h => h) hS ?hy10 (by rfl) ?rest10
     case hy10 =>
      intro w0 h0
      have c0 := h0.cell 0 rfl
      go_simp
      try with_reducible rfl
     simp only [Act.put, yq0, yq1, yq2, yq3, yq4, yq5]
     refine AnyG.one 10 (by kernel_rfl) rfl ?_
     intro K hK
     go_simp
     refine (HN.out _).mono ?_
     rintro e w4 ⟨rfl, rfl⟩
     refine hK.out _ _ (fun _ => hS) ?_
     clear hK K
     try simp only [Act.put, yq0, yq1, yq2, yq3, yq4, yq5]
     refine AnyG.take 11 (v := ?vv11) rfl (by kernel_rfl) (by kernel_rfl) (by kernel_rfl) (by kernel_rfl) (fun _ _ _ h => h) hS ?hy11 (by rfl) ?rest11
     case hy11 =>
      intro w0 h0
      go_simp
      try with_reducible rfl
     simp only [Act.put, yq0, yq1, yq2, yq3, yq4, yq5]
     refine AnyG.take 12 (v := ?vv12) rfl (by kernel_rfl) (by kernel_rfl) (by kernel_rfl) (by kernel_rfl) (fun _ _ _ h => h) hS ?hy12 (by rfl) ?rest12
     case hy12 =>
      intro w0 h0
      go_simp
      try with_reducible rfl
     simp only [Act.put, yq0, yq1, yq2, yq3, yq4, yq5]
     refine AnyG.take 13 (v := ?vv13) rfl (by kernel_rfl) (by kernel_rfl) (by kernel_rfl) (by kernel_rfl) (fun _ _ _ h => h) hS ?hy13 (by rfl) ?rest13
     case hy13 =>
      intro w0 h0
      go_simp
      try with_reducible rfl
     simp only [Act.put, yq0, yq1, yq2, yq3, yq4, yq5]
     refine AnyG.take 14 (v := ?vv14) rfl (by kernel_rfl) (by kernel_rfl) (by kernel_rfl) (by kernel_rfl) (fun _ _ _ h => h) hS ?hy14 (by rfl) ?rest14
     case hy14 =>
      intro w0 h0
      go_simp
      try with_reducible rfl
     simp only [Act.put, yq0, yq1, yq2, yq3, yq4, yq5]
     refine AnyG.take 15 (v := ?vv15) rfl (by kernel_rfl) (by kernel_rfl) (by kernel_rfl) (by kernel_rfl) (fun _ _ _ h => h) hS ?hy15 (by rfl) ?rest15
     case hy15 =>
      intro w0 h0
      have c0 := h0.cell 7 rfl
      go_simp
      try with_reducible rfl
     simp only [Act.put, yq0, yq1, yq2, yq3, yq4, yq5]
     refine AnyG.take 16 (v := ?vv16) rfl (by kernel_rfl) (by kernel_rfl) (by kernel_rfl) (by kernel_rfl) (fun _ _ _ h => h) hS ?hy16 (by rfl) ?rest16
     case hy16 =>
      intro w0 h0
      go_simp
      try with_reducible rfl
     simp only [Act.put, yq0, yq1, yq2, yq3, yq4, yq5]
     refine AnyG.take 17 (v := ?vv17) rfl (by kernel_rfl) (by kernel_rfl) (by kernel_rfl) (by kernel_rfl) (fun _ _ _ h => h) hS ?hy17 (by rfl) ?rest17
     case hy17 =>
      intro w0 h0
      go_simp
      try with_reducible rfl
     simp only [Act.put, yq0, yq1, yq2, yq3, yq4, yq5]
     refine AnyG.take 18 (v := ?vv18) rfl (by kernel_rfl) (by kernel_rfl) (by kernel_rfl) (by kernel_rfl) (fun _ _ _ h => h) hS ?hy18 (by rfl) ?rest18
     case hy18 =>
      intro w0 h0
      go_simp
      try with_reducible rfl
     simp only [Act.put, yq0, yq1, yq2, yq3, yq4, yq5]
     refine AnyG.take 19 (v := ?vv19) rfl (by kernel_rfl) (by kernel_rfl) (by kernel_rfl) (by kernel_rfl) (fun _ _ _ h => h) hS ?hy19 (by rfl) ?rest19
     case hy19 =>
      intro w0 h0
      go_simp
      try with_reducible rfl
     simp only [Act.put, yq0, yq1, yq2, yq3, yq4, yq5]
     refine AnyG.take 20 (v := ?vv20) rfl (by kernel_rfl) (by kernel_rfl) (by kernel_rfl) (by kernel_rfl) (fun _ _ _ h => h) hS ?hy20 (by rfl) ?rest20
     case hy20 =>
      intro w0 h0
      go_simp
      try with_reducible rfl
     simp only [Act.put, yq0, yq1, yq2, yq3, yq4, yq5]
     refine AnyG.take 21 (v := ?vv21) rfl (by kernel_rfl) (by kernel_rfl) (by kernel_rfl) (by kernel_rfl) (fun _ _ _ h => h) hS ?hy21 (by rfl) ?rest21
     case hy21 =>
      intro w0 h0
      go_simp
      try with_reducible rfl
     simp only [Act.put, yq0, yq1, yq2, yq3, yq4, yq5]
     refine AnyG.take 22 (v := ?vv22) rfl (by kernel_rfl) (by kernel_rfl) (by kernel_rfl) (by kernel_rfl) (fun _ _ _ h => h) hS ?hy22 (by rfl) ?rest22
     case hy22 =>
      intro w0 h0
      have c0 := h0.cell 8 rfl
      go_simp
      try with_reducible rfl
     simp only [Act.put, yq0, yq1, yq2, yq3, yq4, yq5]
     refine AnyG.take 23 (v := ?vv23) rfl (by kernel_rfl) (by kernel_rfl) (by kernel_rfl) (by kernel_rfl) (fun _ _ _ h => h) hS ?hy23 (by rfl) ?rest23
     case hy23 =>
      intro w0 h0
      go_simp
      try with_reducible rfl
     simp only [Act.put, yq0, yq1, yq2, yq3, yq4, yq5]
     refine AnyG.take 24 (v := ?vv24) rfl (by kernel_rfl) (by kernel_rfl) (by kernel_rfl) (by kernel_rfl) (fun _ _ _ h => h) hS ?hy24 (by rfl) ?rest24
     case hy24 =>
      intro w0 h0
      go_simp
      try with_reducible rfl
     simp only [Act.put, yq0, yq1, yq2, yq3, yq4, yq5]
     refine AnyG.take 25 (v := ?vv25) rfl (by kernel_rfl) (by kernel_rfl) (by kernel_rfl) (by kernel_rfl) (fun _ _ _ h => h) hS ?hy25 (by rfl) ?rest25
     case hy25 =>
      intro w0 h0
      go_simp
      try with_reducible rfl
     simp only [Act.put, yq0, yq1, yq2, yq3, yq4, yq5]
     refine AnyG.take 26 (v := ?vv26) rfl (by kernel_rfl) (by kernel_rfl) (by kernel_rfl) (by kernel_rfl) (fun _ _ _ h => h) hS ?hy26 (by rfl) ?rest26
     case hy26 =>
      intro w0 h0
      go_simp
      try with_reducible rfl
     simp only [Act.put, yq0, yq1, yq2, yq3, yq4, yq5]
     refine AnyG.take 27 (v := ?vv27) rfl (by kernel_rfl) (by kernel_rfl) (by kernel_rfl) (by kernel_rfl) (fun _ _ _ h => h) hS ?hy27 (by rfl) ?rest27
     case hy27 =>
      intro w0 h0
      go_simp
      try with_reducible rfl
     simp only [Act.put, yq0, yq1, yq2, yq3, yq4, yq5]
     refine AnyG.done (by kernel_rfl) ?_ _
     clear hS HN HGr
     go_wp2
     go_ret
     exact ⟨rfl, bV⟩
    ·have t2 : ((T.length : Int) == (G : Int)) = false := by simp; omega
     obtain rfl : B = false := by
      rw [HB2.out]
      exact decide_eq_false fun h => by omega
     clear HB2 v kk s t
     refine AnyG.take 0 (v := ?vv41) rfl (by kernel_rfl) (by kernel_rfl) (by kernel_rfl) (by kernel_rfl) (fun _ _ _ h => h) hS ?hy41 (by rfl) ?rest41
     case hy41 =>
      intro w0 h0
      go_simp
      try with_reducible rfl
     simp only [Act.put, yq0, yq1, yq2, yq3, yq4, yq5]
     refine AnyG.take 1 (v := ?vv42) rfl (by kernel_rfl) (by kernel_rfl) (by kernel_rfl) (by kernel_rfl) (fun _ _ _ h => h) hS ?hy42 (by rfl) ?rest42
     case hy42 =>
      intro w0 h0
      go_simp
      try with_reducible rfl
     simp only [Act.put, yq0, yq1, yq2, yq3, yq4, yq5]
     refine AnyG.take 2 (v := ?vv43) rfl (by kernel_rfl) (by kernel_rfl) (by kernel_rfl) (by kernel_rfl) (fun _ _ _ h => h) hS ?hy43 (by rfl) ?rest43
     case hy43 =>
      intro w0 h0
      have c0 := h0.cell 2 rfl
      go_simp
      try with_reducible rfl
     simp only [Act.put, yq0, yq1, yq2, yq3, yq4, yq5]
     refine AnyG.take 3 (v := ?vv44) rfl (by kernel_rfl) (by kernel_rfl) (by kernel_rfl) (by kernel_rfl) (fun _ _ _ h => h) hS ?hy44 (by rfl) ?rest44
     case hy44 =>
      intro w0 h0
      go_simp
      try with_reducible rfl
     simp only [Act.put, yq0, yq1, yq2, yq3, yq4, yq5]
     refine AnyG.take 4 (v := ?vv45) rfl (by kernel_rfl) (by kernel_rfl) (by kernel_rfl) (by kernel_rfl) (fun _ _ _ h => h) hS ?hy45 (by rfl) ?rest45
     case hy45 =>
      intro w0 h0
      go_simp
      try with_reducible rfl
     simp only [Act.put, yq0, yq1, yq2, yq3, yq4, yq5]
     refine AnyG.take 5 (v := ?vv46) rfl (by kernel_rfl) (by kernel_rfl) (by kernel_rfl) (by kernel_rfl) (fun _ _ _ h => h) hS ?hy46 (by rfl) ?rest46
     case hy46 =>
      intro w0 h0
      go_simp
      try with_reducible rfl
     simp only [Act.put, yq0, yq1, yq2, yq3, yq4, yq5]
     refine AnyG.take 6 (v := ?vv47) rfl (by kernel_rfl) (by kernel_rfl) (by kernel_rfl) (by kernel_rfl) (fun _ _ _ h => h) hS ?hy47 (by rfl) ?rest47
     case hy47 =>
      intro w0 h0
      go_simp
      try with_reducible rfl
     simp only [Act.put, yq0, yq1, yq2, yq3, yq4, yq5]
     refine AnyG.take 7 (v := ?vv48) rfl (by kernel_rfl) (by kernel_rfl) (by kernel_rfl) (by kernel_rfl) (fun _ _ _ h => h) hS ?hy48 (by rfl) ?rest48
     case hy48 =>
      intro w0 h0
      have c0 := h0.cell 1 rfl
      go_simp
      try with_reducible rfl
     simp only [Act.put, yq0, yq1, yq2, yq3, yq4, yq5]
     refine AnyG.take 8 (v := ?vv49) rfl (by kernel_rfl) (by kernel_rfl) (by kernel_rfl) (by kernel_rfl) (fun _ _ _ h => h) hS ?hy49 (by rfl) ?rest49
     case hy49 =>
      intro w0 h0
      go_simp
      try with_reducible rfl
     simp only [Act.put, yq0, yq1, yq2, yq3, yq4, yq5]
     refine AnyG.take 9 (v := ?vv50) rfl (by kernel_rfl) (by kernel_rfl) (by kernel_rfl) (by kernel_rfl) (fun _ _ _ h => h) hS ?hy50 (by rfl) ?rest50
     case hy50 =>
      intro w0 h0
      have c0 := h0.cell 0 rfl
      go_simp
      try with_reducible rfl
     simp only [Act.put, yq0, yq1, yq2, yq3, yq4, yq5]
     refine AnyG.one 10 (by kernel_rfl) rfl ?_
     intro K hK
     go_simp
     refine (HN.out _).mono ?_
     rintro e w4 ⟨rfl, rfl⟩
     refine hK.out _ _ (fun _ => hS) ?_
     clear hK K
     try simp only [Act.put, yq0, yq1, yq2, yq3, yq4, yq5]
     refine AnyG.take 11 (v := ?vv51) rfl (by kernel_rfl) (by kernel_rfl) (by kernel_rfl) (by kernel_rfl) (fun _ _ _ h => h) hS ?hy51 (by rfl) ?rest51
     case hy51 =>
      intro w0 h0
      go_simp
      try with_reducible rfl
     simp only [Act.put, yq0, yq1, yq2, yq3, yq4, yq5]
     refine AnyG.take 12 (v := ?vv52) rfl (by kernel_rfl) (by kernel_rfl) (by kernel_rfl) (by kernel_rfl) (fun _ _ _ h => h) hS ?hy52 (by rfl) ?rest52
     case hy52 =>
      intro w0 h0
      go_simp
      try with_reducible rfl
     simp only [Act.put, yq0, yq1, yq2, yq3, yq4, yq5]
     refine AnyG.take 13 (v := ?vv53) rfl (by kernel_rfl) (by kernel_rfl) (by kernel_rfl) (by kernel_rfl) (fun _ _ _ h => h) hS ?hy53 (by rfl) ?rest53
     case hy53 =>
      intro w0 h0
      go_simp
      try with_reducible rfl
     simp only [Act.put, yq0, yq1, yq2, yq3, yq4, yq5]
     refine AnyG.take 14 (v := ?vv54) rfl (by kernel_rfl) (by kernel_rfl) (by kernel_rfl) (by kernel_rfl) (fun _ _ _ h => h) hS ?hy54 (by rfl) ?rest54
     case hy54 =>
      intro w0 h0
      go_simp
      try with_reducible rfl
     simp only [Act.put, yq0, yq1, yq2, yq3, yq4, yq5]
     refine AnyG.take 15 (v := ?vv55) rfl (by kernel_rfl) (by kernel_rfl) (by kernel_rfl) (by kernel_rfl) (fun _ _ _ h => h) hS ?hy55 (by rfl) ?rest55
     case hy55 =>
      intro w0 h0
      have c0 := h0.cell 7 rfl
      go_simp
      try with_reducible rfl
     simp only [Act.put, yq0, yq1, yq2, yq3, yq4, yq5]
     refine AnyG.take 16 (v := ?vv56) rfl (by kernel_rfl) (by kernel_rfl) (by kernel_rfl) (by kernel_rfl) (fun _ _ _ h => h) hS ?hy56 (by rfl) ?rest56
     case hy56 =>
      intro w0 h0
      go_simp
      try with_reducible rfl
     simp only [Act.put, yq0, yq1, yq2, yq3, yq4, yq5]
     refine AnyG.take 17 (v := ?vv57) rfl (by kernel_rfl) (by kernel_rfl) (by kernel_rfl) (by kernel_rfl) (fun _ _ _ h => h) hS ?hy57 (by rfl) ?rest57
     case hy57 =>
      intro w0 h0
      go_simp
      try with_reducible rfl
     simp only [Act.put, yq0, yq1, yq2, yq3, yq4, yq5]
     refine AnyG.take 18 (v := ?vv58) rfl (by kernel_rfl) (by kernel_rfl) (by kernel_rfl) (by kernel_rfl) (fun _ _ _ h => h) hS ?hy58 (by rfl) ?rest58
     case hy58 =>
      intro w0 h0
      go_simp
      try with_reducible rfl
     simp only [Act.put, yq0, yq1, yq2, yq3, yq4, yq5]
     refine AnyG.take 19 (v := ?vv59) rfl (by kernel_rfl) (by kernel_rfl) (by kernel_rfl) (by kernel_rfl) (fun _ _ _ h => h) hS ?hy59 (by rfl) ?rest59
     case hy59 =>
      intro w0 h0
      go_simp
      try with_reducible rfl
     simp only [Act.put, yq0, yq1, yq2, yq3, yq4, yq5]
     refine AnyG.take 20 (v := ?vv60) rfl (by kernel_rfl) (by kernel_rfl) (by kernel_rfl) (by kernel_rfl) (fun _ _ _ h => h) hS ?hy60 (by rfl) ?rest60
     case hy60 =>
      intro w0 h0
      go_simp
      try with_reducible rfl
     simp only [Act.put, yq0, yq1, yq2, yq3, yq4, yq5]
     refine AnyG.take 21 (v := ?vv61) rfl (by kernel_rfl) (by kernel_rfl) (by kernel_rfl) (by kernel_rfl) (fun _ _ _ h => h) hS ?hy61 (by rfl) ?rest61
     case hy61 =>
      intro w0 h0
      go_simp
      try with_reducible rfl
     simp only [Act.put, yq0, yq1, yq2, yq3, yq4, yq5]
     refine AnyG.take 22 (v := ?vv62) rfl (by kernel_rfl) (by kernel_rfl) (by kernel_rfl) (by kernel_rfl) (fun _ _ _ h => h) hS ?hy62 (by rfl) ?rest62
     case hy62 =>
      intro w0 h0
      have c0 := h0.cell 8 rfl
      go_simp
      try with_reducible rfl
     simp only [Act.put, yq0, yq1, yq2, yq3, yq4, yq5]
     refine AnyG.take 23 (v := ?vv63) rfl (by kernel_rfl) (by kernel_rfl) (by kernel_rfl) (by kernel_rfl) (fun _ _ _ h => h) hS ?hy63 (by rfl) ?rest63
     case hy63 =>
      intro w0 h0
      go_simp
      try with_reducible rfl
     simp only [Act.put, yq0, yq1, yq2, yq3, yq4, yq5]
     refine AnyG.take 24 (v := ?vv64) rfl (by kernel_rfl) (by kernel_rfl) (by kernel_rfl) (by kernel_rfl) (fun _ _ _ h => h) hS ?hy64 (by rfl) ?rest64
     case hy64 =>
      intro w0 h0
      go_simp
      try with_reducible rfl
     simp only [Act.put, yq0, yq1, yq2, yq3, yq4, yq5]
     refine AnyG.take 25 (v := ?vv65) rfl (by kernel_rfl) (by kernel_rfl) (by kernel_rfl) (by kernel_rfl) (fun _ _ _ h => h) hS ?hy65 (by rfl) ?rest65
     case hy65 =>
      intro w0 h0
      go_simp
      try with_reducible rfl
     simp only [Act.put, yq0, yq1, yq2, yq3, yq4, yq5]
     refine AnyG.take 26 (v := ?vv66) rfl (by kernel_rfl) (by kernel_rfl) (by kernel_rfl) (by kernel_rfl) (fun _ _ _ h => h) hS ?hy66 (by rfl) ?rest66
     case hy66 =>
      intro w0 h0
      go_simp
      try with_reducible rfl
     simp only [Act.put, yq0, yq1, yq2, yq3, yq4, yq5]
     refine AnyG.take 27 (v := ?vv67) rfl (by kernel_rfl) (by kernel_rfl) (by kernel_rfl) (by kernel_rfl) (fun _ _ _ h => h) hS ?hy67 (by rfl) ?rest67
     case hy67 =>
      intro w0 h0
      go_simp
      try with_reducible rfl
     simp only [Act.put, yq0, yq1, yq2, yq3, yq4, yq5]
     refine AnyG.done (by kernel_rfl) ?_ _
     clear hS HN HGr
     go_wp2
     go_ret
     exact ⟨rfl, bV⟩
   ·have s2 : ((S.length : Int) == (G : Int)) = false := by simp; omega
    obtain rfl : B = false := by
     rw [HB2.out]
     exact decide_eq_false fun h => by omega
    clear HB2 v kk s
    refine AnyG.take 0 (v := ?vv81) rfl (by kernel_rfl) (by kernel_rfl) (by kernel_rfl) (by kernel_rfl) (fun _ _ _ h => h) hS ?hy81 (by rfl) ?rest81
    case hy81 =>
     intro w0 h0
     go_simp
     try with_reducible rfl
    simp only [Act.put, yq0, yq1, yq2, yq3, yq4, yq5]
    refine AnyG.take 1 (v := ?vv82) rfl (by kernel_rfl) (by kernel_rfl) (by kernel_rfl) (by kernel_rfl) (fun _ _ _ h => h) hS ?hy82 (by rfl) ?rest82
    case hy82 =>
     intro w0 h0
     go_simp
     try with_reducible rfl
    simp only [Act.put, yq0, yq1, yq2, yq3, yq4, yq5]
    refine AnyG.take 2 (v := ?vv83) rfl (by kernel_rfl) (by kernel_rfl) (by kernel_rfl) (by kernel_rfl) (fun _ _ _ h => h) hS ?hy83 (by rfl) ?rest83
    case hy83 =>
     intro w0 h0
     have c0 := h0.cell 2 rfl
     go_simp
     try with_reducible rfl
    simp only [Act.put, yq0, yq1, yq2, yq3, yq4, yq5]
    refine AnyG.take 3 (v := ?vv84) rfl (by kernel_rfl) (by kernel_rfl) (by kernel_rfl) (by kernel_rfl) (fun _ _ _ h => h) hS ?hy84 (by rfl) ?rest84
    case hy84 =>
     intro w0 h0
     go_simp
     try with_reducible rfl
    simp only [Act.put, yq0, yq1, yq2, yq3, yq4, yq5]
    refine AnyG.take 4 (v := ?vv85) rfl (by kernel_rfl) (by kernel_rfl) (by kernel_rfl) (by kernel_rfl) (fun _ _ _ h => h) hS ?hy85 (by rfl) ?rest85
    case hy85 =>
     intro w0 h0
     go_simp
     try with_reducible rfl
    simp only [Act.put, yq0, yq1, yq2, yq3, yq4, yq5]
    refine AnyG.take 5 (v := ?vv86) rfl (by kernel_rfl) (by kernel_rfl) (by kernel_rfl) (by kernel_rfl) (fun _ _ _ h => h) hS ?hy86 (by rfl) ?rest86
    case hy86 =>
     intro w0 h0
     go_simp
     try with_reducible rfl
    simp only [Act.put, yq0, yq1, yq2, yq3, yq4, yq5]
    refine AnyG.take 6 (v := ?vv87) rfl (by kernel_rfl) (by kernel_rfl) (by kernel_rfl) (by kernel_rfl) (fun _ _ _ h => h) hS ?hy87 (by rfl) ?rest87
    case hy87 =>
     intro w0 h0
     go_simp
     try with_reducible rfl
    simp only [Act.put, yq0, yq1, yq2, yq3, yq4, yq5]
    refine AnyG.take 7 (v := ?vv88) rfl (by kernel_rfl) (by kernel_rfl) (by kernel_rfl) (by kernel_rfl) (fun _ _ _ h => h) hS ?hy88 (by rfl) ?rest88
    case hy88 =>
     intro w0 h0
     have c0 := h0.cell 1 rfl
     go_simp
     try with_reducible rfl
    simp only [Act.put, yq0, yq1, yq2, yq3, yq4, yq5]
    refine AnyG.take 8 (v := ?vv89) rfl (by kernel_rfl) (by kernel_rfl) (by kernel_rfl) (by kernel_rfl) (fun _ _ _ h => h) hS ?hy89 (by rfl) ?rest89
    case hy89 =>
     intro w0 h0
     go_simp
     try with_reducible rfl
    simp only [Act.put, yq0, yq1, yq2, yq3, yq4, yq5]
    refine AnyG.take 9 (v := ?vv90) rfl (by kernel_rfl) (by kernel_rfl) (by kernel_rfl) (by kernel_rfl) (fun _ _ _ h => h) hS ?hy90 (by rfl) ?rest90
    case hy90 =>
     intro w0 h0
     have c0 := h0.cell 0 rfl
     go_simp
     try with_reducible rfl
    simp only [Act.put, yq0, yq1, yq2, yq3, yq4, yq5]
    refine AnyG.one 10 (by kernel_rfl) rfl ?_
    intro K hK
    go_simp
    refine (HN.out _).mono ?_
    rintro e w4 ⟨rfl, rfl⟩
    refine hK.out _ _ (fun _ => hS) ?_
    clear hK K
    try simp only [Act.put, yq0, yq1, yq2, yq3, yq4, yq5]
    refine AnyG.take 11 (v := ?vv91) rfl (by kernel_rfl) (by kernel_rfl) (by kernel_rfl) (by kernel_rfl) (fun _ _ _ h => h) hS ?hy91 (by rfl) ?rest91
    case hy91 =>
     intro w0 h0
     go_simp
     try with_reducible rfl
    simp only [Act.put, yq0, yq1, yq2, yq3, yq4, yq5]
    refine AnyG.take 12 (v := ?vv92) rfl (by kernel_rfl) (by kernel_rfl) (by kernel_rfl) (by kernel_rfl) (fun _ _ _ h => h) hS ?hy92 (by rfl) ?rest92
    case hy92 =>
     intro w0 h0
     go_simp
     try with_reducible rfl
    simp only [Act.put, yq0, yq1, yq2, yq3, yq4, yq5]
    refine AnyG.take 13 (v := ?vv93) rfl (by kernel_rfl) (by kernel_rfl) (by kernel_rfl) (by kernel_rfl) (fun _ _ _ h => h) hS ?hy93 (by rfl) ?rest93
    case hy93 =>
     intro w0 h0
     go_simp
     try with_reducible rfl
    simp only [Act.put, yq0, yq1, yq2, yq3, yq4, yq5]
    refine AnyG.take 14 (v := ?vv94) rfl (by kernel_rfl) (by kernel_rfl) (by kernel_rfl) (by kernel_rfl) (fun _ _ _ h => h) hS ?hy94 (by rfl) ?rest94
    case hy94 =>
     intro w0 h0
     go_simp
     try with_reducible rfl
    simp only [Act.put, yq0, yq1, yq2, yq3, yq4, yq5]
    refine AnyG.take 15 (v := ?vv95) rfl (by kernel_rfl) (by kernel_rfl) (by kernel_rfl) (by kernel_rfl) (fun _ _ _ h => h) hS ?hy95 (by rfl) ?rest95
    case hy95 =>
     intro w0 h0
     have c0 := h0.cell 7 rfl
     go_simp
     try with_reducible rfl
    simp only [Act.put, yq0, yq1, yq2, yq3, yq4, yq5]
    refine AnyG.take 16 (v := ?vv96) rfl (by kernel_rfl) (by kernel_rfl) (by kernel_rfl) (by kernel_rfl) (fun _ _ _ h => h) hS ?hy96 (by rfl) ?rest96
    case hy96 =>
     intro w0 h0
     go_simp
     try with_reducible rfl
    simp only [Act.put, yq0, yq1, yq2, yq3, yq4, yq5]
    refine AnyG.take 17 (v := ?vv97) rfl (by kernel_rfl) (by kernel_rfl) (by kernel_rfl) (by kernel_rfl) (fun _ _ _ h => h) hS ?hy97 (by rfl) ?rest97
    case hy97 =>
     intro w0 h0
     go_simp
     try with_reducible rfl
    simp only [Act.put, yq0, yq1, yq2, yq3, yq4, yq5]
    refine AnyG.take 18 (v := ?vv98) rfl (by kernel_rfl) (by kernel_rfl) (by kernel_rfl) (by kernel_rfl) (fun _ _ _ h => h) hS ?hy98 (by rfl) ?rest98
    case hy98 =>
     intro w0 h0
     go_simp
     try with_reducible rfl
    simp only [Act.put, yq0, yq1, yq2, yq3, yq4, yq5]
    refine AnyG.take 19 (v := ?vv99) rfl (by kernel_rfl) (by kernel_rfl) (by kernel_rfl) (by kernel_rfl) (fun _ _ _ h => h) hS ?hy99 (by rfl) ?rest99
    case hy99 =>
     intro w0 h0
     go_simp
     try with_reducible rfl
    simp only [Act.put, yq0, yq1, yq2, yq3, yq4, yq5]
    refine AnyG.take 20 (v := ?vv100) rfl (by kernel_rfl) (by kernel_rfl) (by kernel_rfl) (by kernel_rfl) (fun _ _ _ h => h) hS ?hy100 (by rfl) ?rest100
    case hy100 =>
     intro w0 h0
     go_simp
     try with_reducible rfl
    simp only [Act.put, yq0, yq1, yq2, yq3, yq4, yq5]
    refine AnyG.skip 21 rfl (by kernel_rfl) (by kernel_rfl) (by kernel_rfl) (by kernel_rfl) (fun _ _ _ h => h) hS (by rfl) ?_
    simp only [Act.put, yq0, yq1, yq2, yq3, yq4, yq5]
    refine AnyG.skip 22 rfl (by kernel_rfl) (by kernel_rfl) (by kernel_rfl) (by kernel_rfl) (fun _ _ _ h => h) hS (by rfl) ?_
    simp only [Act.put, yq0, yq1, yq2, yq3, yq4, yq5]
    refine AnyG.skip 23 rfl (by kernel_rfl) (by kernel_rfl) (by kernel_rfl) (by kernel_rfl) (fun _ _ _ h => h) hS (by rfl) ?_
    simp only [Act.put, yq0, yq1, yq2, yq3, yq4, yq5]
    refine AnyG.skip 24 rfl (by kernel_rfl) (by kernel_rfl) (by kernel_rfl) (by kernel_rfl) (fun _ _ _ h => h) hS (by rfl) ?_
    simp only [Act.put, yq0, yq1, yq2, yq3, yq4, yq5]
    refine AnyG.skip 25 rfl (by kernel_rfl) (by kernel_rfl) (by kernel_rfl) (by kernel_rfl) (fun _ _ _ h => h) hS (by rfl) ?_
    simp only [Act.put, yq0, yq1, yq2, yq3, yq4, yq5]
    refine AnyG.take 26 (v := ?vv101) rfl (by kernel_rfl) (by kernel_rfl) (by kernel_rfl) (by kernel_rfl) (fun _ _ _ h => h) hS ?hy101 (by rfl) ?rest101
    case hy101 =>
     intro w0 h0
     go_simp
     try with_reducible rfl
    simp only [Act.put, yq0, yq1, yq2, yq3, yq4, yq5]
    refine AnyG.take 27 (v := ?vv102) rfl (by kernel_rfl) (by kernel_rfl) (by kernel_rfl) (by kernel_rfl) (fun _ _ _ h => h) hS ?hy102 (by rfl) ?rest102
    case hy102 =>
     intro w0 h0
     go_simp
     try with_reducible rfl
    simp only [Act.put, yq0, yq1, yq2, yq3, yq4, yq5]
    refine AnyG.done (by kernel_rfl) ?_ _
    clear hS HN HGr
    go_wp2
    go_ret
    exact ⟨rfl, bV⟩
  ·have kk2 : (k == (nbm : Int)) = false := by simpa using kk
   obtain rfl : B = false := by
    rw [HB2.out]
    exact decide_eq_false fun h => by omega
   clear HB2 v kk
   refine AnyG.take 0 (v := ?vv121) rfl (by kernel_rfl) (by kernel_rfl) (by kernel_rfl) (by kernel_rfl) (fun _ _ _ h => h) hS ?hy121 (by rfl) ?rest121
   case hy121 =>
    intro w0 h0
    go_simp
    try with_reducible rfl
   simp only [Act.put, yq0, yq1, yq2, yq3, yq4, yq5]
   refine AnyG.take 1 (v := ?vv122) rfl (by kernel_rfl) (by kernel_rfl) (by kernel_rfl) (by kernel_rfl) (fun _ _ _ h => h) hS ?hy122 (by rfl) ?rest122
   case hy122 =>
    intro w0 h0
    go_simp
    try with_reducible rfl
   simp only [Act.put, yq0, yq1, yq2, yq3, yq4, yq5]
   refine AnyG.take 2 (v := ?vv123) rfl (by kernel_rfl) (by kernel_rfl) (by kernel_rfl) (by kernel_rfl) (fun _ _ _ h => h) hS ?hy123 (by rfl) ?rest123
   case hy123 =>
    intro w0 h0
    have c0 := h0.cell 2 rfl
    go_simp
    try with_reducible rfl
   simp only [Act.put, yq0, yq1, yq2, yq3, yq4, yq5]
   refine AnyG.take 3 (v := ?vv124) rfl (by kernel_rfl) (by kernel_rfl) (by kernel_rfl) (by kernel_rfl) (fun _ _ _ h => h) hS ?hy124 (by rfl) ?rest124
   case hy124 =>
    intro w0 h0
    go_simp
    try with_reducible rfl
   simp only [Act.put, yq0, yq1, yq2, yq3, yq4, yq5]
   refine AnyG.take 4 (v := ?vv125) rfl (by kernel_rfl) (by kernel_rfl) (by kernel_rfl) (by kernel_rfl) (fun _ _ _ h => h) hS ?hy125 (by rfl) ?rest125
   case hy125 =>
    intro w0 h0
    go_simp
    try with_reducible rfl
   simp only [Act.put, yq0, yq1, yq2, yq3, yq4, yq5]
   refine AnyG.take 5 (v := ?vv126) rfl (by kernel_rfl) (by kernel_rfl) (by kernel_rfl) (by kernel_rfl) (fun _ _ _ h => h) hS ?hy126 (by rfl) ?rest126
   case hy126 =>
    intro w0 h0
    go_simp
    try with_reducible rfl
   simp only [Act.put, yq0, yq1, yq2, yq3, yq4, yq5]
   refine AnyG.take 6 (v := ?vv127) rfl (by kernel_rfl) (by kernel_rfl) (by kernel_rfl) (by kernel_rfl) (fun _ _ _ h => h) hS ?hy127 (by rfl) ?rest127
   case hy127 =>
    intro w0 h0
    go_simp
    try with_reducible rfl
   simp only [Act.put, yq0, yq1, yq2, yq3, yq4, yq5]
   refine AnyG.take 7 (v := ?vv128) rfl (by kernel_rfl) (by kernel_rfl) (by kernel_rfl) (by kernel_rfl) (fun _ _ _ h => h) hS ?hy128 (by rfl) ?rest128
   case hy128 =>
    intro w0 h0
    have c0 := h0.cell 1 rfl
    go_simp
    try with_reducible rfl
   simp only [Act.put, yq0, yq1, yq2, yq3, yq4, yq5]
   refine AnyG.take 8 (v := ?vv129) rfl (by kernel_rfl) (by kernel_rfl) (by kernel_rfl) (by kernel_rfl) (fun _ _ _ h => h) hS ?hy129 (by rfl) ?rest129
   case hy129 =>
    intro w0 h0
    go_simp
    try with_reducible rfl
   simp only [Act.put, yq0, yq1, yq2, yq3, yq4, yq5]
   refine AnyG.take 9 (v := ?vv130) rfl (by kernel_rfl) (by kernel_rfl) (by kernel_rfl) (by kernel_rfl) (fun _ _ _ h => h) hS ?hy130 (by rfl) ?rest130
   case hy130 =>
    intro w0 h0
    have c0 := h0.cell 0 rfl
    go_simp
    try with_reducible rfl
   simp only [Act.put, yq0, yq1, yq2, yq3, yq4, yq5]
   refine AnyG.one 10 (by kernel_rfl) rfl ?_
   intro K hK
   go_simp
   refine (HN.out _).mono ?_
   rintro e w4 ⟨rfl, rfl⟩
   refine hK.out _ _ (fun _ => hS) ?_
   clear hK K
   try simp only [Act.put, yq0, yq1, yq2, yq3, yq4, yq5]
   refine AnyG.take 11 (v := ?vv131) rfl (by kernel_rfl) (by kernel_rfl) (by kernel_rfl) (by kernel_rfl) (fun _ _ _ h => h) hS ?hy131 (by rfl) ?rest131
   case hy131 =>
    intro w0 h0
    go_simp
    try with_reducible rfl
   simp only [Act.put, yq0, yq1, yq2, yq3, yq4, yq5]
   refine AnyG.take 12 (v := ?vv132) rfl (by kernel_rfl) (by kernel_rfl) (by kernel_rfl) (by kernel_rfl) (fun _ _ _ h => h) hS ?hy132 (by rfl) ?rest132
   case hy132 =>
    intro w0 h0
    go_simp
    try with_reducible rfl
   simp only [Act.put, yq0, yq1, yq2, yq3, yq4, yq5]
   refine AnyG.take 13 (v := ?vv133) rfl (by kernel_rfl) (by kernel_rfl) (by kernel_rfl) (by kernel_rfl) (fun _ _ _ h => h) hS ?hy133 (by rfl) ?rest133
   case hy133 =>
    intro w0 h0
    go_simp
    try with_reducible rfl
   simp only [Act.put, yq0, yq1, yq2, yq3, yq4, yq5]
   refine AnyG.skip 14 rfl (by kernel_rfl) (by kernel_rfl) (by kernel_rfl) (by kernel_rfl) (fun _ _ _ h => h) hS (by rfl) ?_
   simp only [Act.put, yq0, yq1, yq2, yq3, yq4, yq5]
   refine AnyG.skip 15 rfl (by kernel_rfl) (by kernel_rfl) (by kernel_rfl) (by kernel_rfl) (fun _ _ _ h => h) hS (by rfl) ?_
   simp only [Act.put, yq0, yq1, yq2, yq3, yq4, yq5]
   refine AnyG.skip 16 rfl (by kernel_rfl) (by kernel_rfl) (by kernel_rfl) (by kernel_rfl) (fun _ _ _ h => h) hS (by rfl) ?_
   simp only [Act.put, yq0, yq1, yq2, yq3, yq4, yq5]
   refine AnyG.skip 17 rfl (by kernel_rfl) (by kernel_rfl) (by kernel_rfl) (by kernel_rfl) (fun _ _ _ h => h) hS (by rfl) ?_
   simp only [Act.put, yq0, yq1, yq2, yq3, yq4, yq5]
   refine AnyG.skip 18 rfl (by kernel_rfl) (by kernel_rfl) (by kernel_rfl) (by kernel_rfl) (fun _ _ _ h => h) hS (by rfl) ?_
   simp only [Act.put, yq0, yq1, yq2, yq3, yq4, yq5]
   refine AnyG.take 19 (v := ?vv134) rfl (by kernel_rfl) (by kernel_rfl) (by kernel_rfl) (by kernel_rfl) (fun _ _ _ h => h) hS ?hy134 (by rfl) ?rest134
   case hy134 =>
    intro w0 h0
    go_simp
    try with_reducible rfl
   simp only [Act.put, yq0, yq1, yq2, yq3, yq4, yq5]
   refine AnyG.take 20 (v := ?vv135) rfl (by kernel_rfl) (by kernel_rfl) (by kernel_rfl) (by kernel_rfl) (fun _ _ _ h => h) hS ?hy135 (by rfl) ?rest135
   case hy135 =>
    intro w0 h0
    go_simp
    try with_reducible rfl
   simp only [Act.put, yq0, yq1, yq2, yq3, yq4, yq5]
   refine AnyG.skip 21 rfl (by kernel_rfl) (by kernel_rfl) (by kernel_rfl) (by kernel_rfl) (fun _ _ _ h => h) hS (by rfl) ?_
   simp only [Act.put, yq0, yq1, yq2, yq3, yq4, yq5]
   refine AnyG.skip 22 rfl (by kernel_rfl) (by kernel_rfl) (by kernel_rfl) (by kernel_rfl) (fun _ _ _ h => h) hS (by rfl) ?_
   simp only [Act.put, yq0, yq1, yq2, yq3, yq4, yq5]
   refine AnyG.skip 23 rfl (by kernel_rfl) (by kernel_rfl) (by kernel_rfl) (by kernel_rfl) (fun _ _ _ h => h) hS (by rfl) ?_
   simp only [Act.put, yq0, yq1, yq2, yq3, yq4, yq5]
   refine AnyG.skip 24 rfl (by kernel_rfl) (by kernel_rfl) (by kernel_rfl) (by kernel_rfl) (fun _ _ _ h => h) hS (by rfl) ?_
   simp only [Act.put, yq0, yq1, yq2, yq3, yq4, yq5]
   refine AnyG.skip 25 rfl (by kernel_rfl) (by kernel_rfl) (by kernel_rfl) (by kernel_rfl) (fun _ _ _ h => h) hS (by rfl) ?_
   simp only [Act.put, yq0, yq1, yq2, yq3, yq4, yq5]
   refine AnyG.take 26 (v := ?vv136) rfl (by kernel_rfl) (by kernel_rfl) (by kernel_rfl) (by kernel_rfl) (fun _ _ _ h => h) hS ?hy136 (by rfl) ?rest136
   case hy136 =>
    intro w0 h0
    go_simp
    try with_reducible rfl
   simp only [Act.put, yq0, yq1, yq2, yq3, yq4, yq5]
   refine AnyG.take 27 (v := ?vv137) rfl (by kernel_rfl) (by kernel_rfl) (by kernel_rfl) (by kernel_rfl) (fun _ _ _ h => h) hS ?hy137 (by rfl) ?rest137
   case hy137 =>
    intro w0 h0
    go_simp
    try with_reducible rfl
   simp only [Act.put, yq0, yq1, yq2, yq3, yq4, yq5]
   refine AnyG.done (by kernel_rfl) ?_ _
   clear hS HN HGr
   go_wp2
   go_ret
   exact ⟨rfl, bV⟩
 ·have v2 : (V == 4) = false := by simpa using v
  obtain rfl : B = false := by
   rw [HB2.out]
   exact decide_eq_false fun h => by omega
  clear HB2 v
  refine AnyG.take 0 (v := ?vv161) rfl (by kernel_rfl) (by kernel_rfl) (by kernel_rfl) (by kernel_rfl) (fun _ _ _ h => h) hS ?hy161 (by rfl) ?rest161
  case hy161 =>
   intro w0 h0
   go_simp
   try with_reducible rfl
  simp only [Act.put, yq0, yq1, yq2, yq3, yq4, yq5]
  refine AnyG.take 1 (v := ?vv162) rfl (by kernel_rfl) (by kernel_rfl) (by kernel_rfl) (by kernel_rfl) (fun _ _ _ h => h) hS ?hy162 (by rfl) ?rest162
  case hy162 =>
   intro w0 h0
   go_simp
   try with_reducible rfl
  simp only [Act.put, yq0, yq1, yq2, yq3, yq4, yq5]
  refine AnyG.take 2 (v := ?vv163) rfl (by kernel_rfl) (by kernel_rfl) (by kernel_rfl) (by kernel_rfl) (fun _ _ _ h => h) hS ?hy163 (by rfl) ?rest163
  case hy163 =>
   intro w0 h0
   have c0 := h0.cell 2 rfl
   go_simp
   try with_reducible rfl
  simp only [Act.put, yq0, yq1, yq2, yq3, yq4, yq5]
  refine AnyG.take 3 (v := ?vv164) rfl (by kernel_rfl) (by kernel_rfl) (by kernel_rfl) (by kernel_rfl) (fun _ _ _ h => h) hS ?hy164 (by rfl) ?rest164
  case hy164 =>
   intro w0 h0
   go_simp
   try with_reducible rfl
  simp only [Act.put, yq0, yq1, yq2, yq3, yq4, yq5]
  refine AnyG.take 4 (v := ?vv165) rfl (by kernel_rfl) (by kernel_rfl) (by kernel_rfl) (by kernel_rfl) (fun _ _ _ h => h) hS ?hy165 (by rfl) ?rest165
  case hy165 =>
   intro w0 h0
   go_simp
   try with_reducible rfl
  simp only [Act.put, yq0, yq1, yq2, yq3, yq4, yq5]
  refine AnyG.skip 5 rfl (by kernel_rfl) (by kernel_rfl) (by kernel_rfl) (by kernel_rfl) (fun _ _ _ h => h) hS (by rfl) ?_
  simp only [Act.put, yq0, yq1, yq2, yq3, yq4, yq5]
  refine AnyG.skip 6 rfl (by kernel_rfl) (by kernel_rfl) (by kernel_rfl) (by kernel_rfl) (fun _ _ _ h => h) hS (by rfl) ?_
  simp only [Act.put, yq0, yq1, yq2, yq3, yq4, yq5]
  refine AnyG.skip 7 rfl (by kernel_rfl) (by kernel_rfl) (by kernel_rfl) (by kernel_rfl) (fun _ _ _ h => h) hS (by rfl) ?_
  simp only [Act.put, yq0, yq1, yq2, yq3, yq4, yq5]
  refine AnyG.skip 8 rfl (by kernel_rfl) (by kernel_rfl) (by kernel_rfl) (by kernel_rfl) (fun _ _ _ h => h) hS (by rfl) ?_
  simp only [Act.put, yq0, yq1, yq2, yq3, yq4, yq5]
  refine AnyG.skip 9 rfl (by kernel_rfl) (by kernel_rfl) (by kernel_rfl) (by kernel_rfl) (fun _ _ _ h => h) hS (by rfl) ?_
  simp only [Act.put, yq0, yq1, yq2, yq3, yq4, yq5]
  refine AnyG.skip 10 rfl (by kernel_rfl) (by kernel_rfl) (by kernel_rfl) (by kernel_rfl) (fun _ _ _ h => h) hS (by rfl) ?_
  simp only [Act.put, yq0, yq1, yq2, yq3, yq4, yq5]
  refine AnyG.skip 11 rfl (by kernel_rfl) (by kernel_rfl) (by kernel_rfl) (by kernel_rfl) (fun _ _ _ h => h) hS (by rfl) ?_
  simp only [Act.put, yq0, yq1, yq2, yq3, yq4, yq5]
  refine AnyG.take 12 (v := ?vv166) rfl (by kernel_rfl) (by kernel_rfl) (by kernel_rfl) (by kernel_rfl) (fun _ _ _ h => h) hS ?hy166 (by rfl) ?rest166
  case hy166 =>
   intro w0 h0
   go_simp
   try with_reducible rfl
  simp only [Act.put, yq0, yq1, yq2, yq3, yq4, yq5]
  refine AnyG.take 13 (v := ?vv167) rfl (by kernel_rfl) (by kernel_rfl) (by kernel_rfl) (by kernel_rfl) (fun _ _ _ h => h) hS ?hy167 (by rfl) ?rest167
  case hy167 =>
   intro w0 h0
   go_simp
   try with_reducible rfl
  simp only [Act.put, yq0, yq1, yq2, yq3, yq4, yq5]
  refine AnyG.skip 14 rfl (by kernel_rfl) (by kernel_rfl) (by kernel_rfl) (by kernel_rfl) (fun _ _ _ h => h) hS (by rfl) ?_
  simp only [Act.put, yq0, yq1, yq2, yq3, yq4, yq5]
  refine AnyG.skip 15 rfl (by kernel_rfl) (by kernel_rfl) (by kernel_rfl) (by kernel_rfl) (fun _ _ _ h => h) hS (by rfl) ?_
  simp only [Act.put, yq0, yq1, yq2, yq3, yq4, yq5]
  refine AnyG.skip 16 rfl (by kernel_rfl) (by kernel_rfl) (by kernel_rfl) (by kernel_rfl) (fun _ _ _ h => h) hS (by rfl) ?_
  simp only [Act.put, yq0, yq1, yq2, yq3, yq4, yq5]
  refine AnyG.skip 17 rfl (by kernel_rfl) (by kernel_rfl) (by kernel_rfl) (by kernel_rfl) (fun _ _ _ h => h) hS (by rfl) ?_
  simp only [Act.put, yq0, yq1, yq2, yq3, yq4, yq5]
  refine AnyG.skip 18 rfl (by kernel_rfl) (by kernel_rfl) (by kernel_rfl) (by kernel_rfl) (fun _ _ _ h => h) hS (by rfl) ?_
  simp only [Act.put, yq0, yq1, yq2, yq3, yq4, yq5]
  refine AnyG.take 19 (v := ?vv168) rfl (by kernel_rfl) (by kernel_rfl) (by kernel_rfl) (by kernel_rfl) (fun _ _ _ h => h) hS ?hy168 (by rfl) ?rest168
  case hy168 =>
   intro w0 h0
   go_simp
   try with_reducible rfl
  simp only [Act.put, yq0, yq1, yq2, yq3, yq4, yq5]
  refine AnyG.take 20 (v := ?vv169) rfl (by kernel_rfl) (by kernel_rfl) (by kernel_rfl) (by kernel_rfl) (fun _ _ _ h => h) hS ?hy169 (by rfl) ?rest169
  case hy169 =>
   intro w0 h0
   go_simp
   try with_reducible rfl
  simp only [Act.put, yq0, yq1, yq2, yq3, yq4, yq5]
  refine AnyG.skip 21 rfl (by kernel_rfl) (by kernel_rfl) (by kernel_rfl) (by kernel_rfl) (fun _ _ _ h => h) hS (by rfl) ?_
  simp only [Act.put, yq0, yq1, yq2, yq3, yq4, yq5]
  refine AnyG.skip 22 rfl (by kernel_rfl) (by kernel_rfl) (by kernel_rfl) (by kernel_rfl) (fun _ _ _ h => h) hS (by rfl) ?_
  simp only [Act.put, yq0, yq1, yq2, yq3, yq4, yq5]
  refine AnyG.skip 23 rfl (by kernel_rfl) (by kernel_rfl) (by kernel_rfl) (by kernel_rfl) (fun _ _ _ h => h) hS (by rfl) ?_
  simp only [Act.put, yq0, yq1, yq2, yq3, yq4, yq5]
  refine AnyG.skip 24 rfl (by kernel_rfl) (by kernel_rfl) (by kernel_rfl) (by kernel_rfl) (fun _ _ _ h => h) hS (by rfl) ?_
  simp only [Act.put, yq0, yq1, yq2, yq3, yq4, yq5]
  refine AnyG.skip 25 rfl (by kernel_rfl) (by kernel_rfl) (by kernel_rfl) (by kernel_rfl) (fun _ _ _ h => h) hS (by rfl) ?_
  simp only [Act.put, yq0, yq1, yq2, yq3, yq4, yq5]
  refine AnyG.take 26 (v := ?vv170) rfl (by kernel_rfl) (by kernel_rfl) (by kernel_rfl) (by kernel_rfl) (fun _ _ _ h => h) hS ?hy170 (by rfl) ?rest170
  case hy170 =>
   intro w0 h0
   go_simp
   try with_reducible rfl
  simp only [Act.put, yq0, yq1, yq2, yq3, yq4, yq5]
  refine AnyG.take 27 (v := ?vv171) rfl (by kernel_rfl) (by kernel_rfl) (by kernel_rfl) (by kernel_rfl) (fun _ _ _ h => h) hS ?hy171 (by rfl) ?rest171
  case hy171 =>
   intro w0 h0
   go_simp
   try with_reducible rfl
  simp only [Act.put, yq0, yq1, yq2, yq3, yq4, yq5]
  refine AnyG.done (by kernel_rfl) ?_ _
  clear hS HN HGr
  go_wp2
  go_ret
  exact ⟨rfl, bV⟩
end Go.Proofs.YtpeecabfcgijhaaGreatDoor
