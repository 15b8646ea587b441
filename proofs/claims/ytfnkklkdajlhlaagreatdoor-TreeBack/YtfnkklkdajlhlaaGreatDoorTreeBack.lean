/-
  TreeBack: what is built is the text, and counts and places of symbols go there and back.
-/
import Derived.Test.YtfnkklkdajlhlaaGreatDoorB25
import Derived.Test.YtfnkklkdajlhlaaGreatDoorCards
import Derived.Test.YtfnkklkdajlhlaaGreatDoorTie
import Derived.ChangeOld
import Derived.LaidMore
import Derived.SevenTiedAt
set_option linter.unusedVariables false
set_option linter.unusedSimpArgs false
set_option maxRecDepth 100000
set_option maxHeartbeats 16000000
namespace Go.Proofs.YtfnkklkdajlhlaaGreatDoor.treeBack
open Go.ChangeShapes Go.WideShapes Go.ChangeAt Go.RowKit Num Bit
theorem walk (w : World) (GW : GV w) (kd : Int) (hkd_ : -9223372036854775808 ≤ kd ∧ kd ≤ 9223372036854775807) (ot : Option Addr) (t : List Nat) (ct : Nat) (Xt : Bd w ot t) (Ft : Bytes t) (Ct : t.length ≤ ct) (c : Int) (hc_ : 0 ≤ c ∧ c < 256) (k : Int) (hk_ : -9223372036854775808 ≤ k ∧ k ≤ 9223372036854775807) :
  Calls Tryz.prog 7 #[.int .i64 kd, .slice ot t.length ct, .int .u8 c, .int .i64 k] w fun e w' => e = .returned (.bool true) ∧ Below w.heap.size w w' := by
 by_cases hL : 600 < t.length
 ·have hL2 : (600 : Int) < (t.length : Int) := by omega
  go_enter Tryz.func7, Tryz.ntmps7
  go_wp2_with fail
  refine (heads_c _ (GW.kept (by first | assumption | exact hS.2.2.2.2 | exact hS.1.1.2 | exact Below.refl _ _))).mono ?_
  rintro e w9 ⟨rfl, hb⟩
  go_wp2
  go_ret
  exact ⟨rfl, hb⟩
 have hL2 : ¬ (600 : Int) < (t.length : Int) := by omega
 by_cases k0 : kd < 1
 ·clear hL
  go_enter Tryz.func7, Tryz.ntmps7
  go_wp2_with fail
  refine (heads_c _ (GW.kept (by first | assumption | exact hS.2.2.2.2 | exact hS.1.1.2 | exact Below.refl _ _))).mono ?_
  rintro e w9 ⟨rfl, hb⟩
  go_wp2
  go_ret
  exact ⟨rfl, hb⟩
 by_cases k1 : 3 < kd
 ·have k2 : (1 : Int) ≤ kd := by omega
  clear hL
  go_enter Tryz.func7, Tryz.ntmps7
  go_wp2_with fail
  refine (heads_c _ (GW.kept (by first | assumption | exact hS.2.2.2.2 | exact hS.1.1.2 | exact Below.refl _ _))).mono ?_
  rintro e w9 ⟨rfl, hb⟩
  go_wp2
  go_ret
  exact ⟨rfl, hb⟩
 have hB := Ft.byt
 obtain ⟨c, rfl⟩ := Int.eq_ofNat_of_zero_le hc_.1
 have hc : c < 256 := by omega
 have htt := tt_tB kd t (by omega) (by omega) hB (by omega)
 obtain ⟨A, hA⟩ : ∃ A, A = tB kd t := ⟨_, rfl⟩
 rw [← hA] at htt
 obtain ⟨K, hK⟩ : ∃ K, K = A.K := ⟨_, rfl⟩
 obtain ⟨N, hN⟩ : ∃ N, N = A.N := ⟨_, rfl⟩
 obtain ⟨m, hm⟩ : ∃ m, m = A.av.length := ⟨_, rfl⟩
 have H1 : Hid (∀ w0, Below w.heap.size w w0 → Calls Tryz.prog 9 #[.int .i64 kd, .slice ot t.length ct] w0 fun e w' => ∃ lo lc, e = .returned (.tuple #[.agg #[.int .i64 K, .int .i64 N, .slice lo m lc], .int .i64 0]) ∧ TI w' lo lc A ∧ Below w0.heap.size w0 w') := fun w0 h => by
  have := build_t kd ot t ct w0 hkd_ (Xt.keep h) hB (by omega) (GW.kept h)
  rw [(tBx_ok kd t (by omega) (by omega)).1, (tBx_ok kd t (by omega) (by omega)).2, ← hA, ← hK, ← hN, ← hm] at this
  exact this
 obtain ⟨M, hM⟩ : ∃ M, Hid (M = Tw.cn t c t.length) := ⟨_, rfl⟩
 have hMn : M ≤ t.length := by rw [hM.out]; exact Tw.cn_le _ _ _
 have HC : Hid (∀ w0 lo lc, TI w0 lo lc A → Calls Tryz.prog 23 #[.agg #[.int .i64 K, .int .i64 N, .slice lo m lc]] w0 fun e w' => e = .returned (.bool true) ∧ Below w0.heap.size w0 w') := fun w0 lo lc h => by
  have := check_t vcA lo lc A w0 h (fun _ _ => trivial)
  rw [htt.ok, ← hK, ← hN, ← hm] at this
  exact this
 have HT : Hid (∀ w0 lo lc, TI w0 lo lc A → Calls Tryz.prog 25 #[.agg #[.int .i64 K, .int .i64 N, .slice lo m lc]] w0 fun e w' => ∃ bo bc, e = .returned (.slice bo t.length bc) ∧ (convert 22 9 (.slice bo t.length bc)).run Tryz.prog w' = .ok (.string (strOfNums (nums t))) w' ∧ Below w0.heap.size w0 w') := fun w0 lo lc h => by
  have := text_t vcA vrA lo lc A w0 h (fun _ _ => trivial)
  unfold tTx at this
  rw [htt.ok, if_pos rfl, htt.txt, ← hK, ← hN, ← hm] at this
  refine this.mono ?_
  rintro e w' ⟨bo, bc, rfl, g1, _, g2⟩
  exact ⟨bo, bc, rfl, conv bc g1, g2⟩
 have CV : Hid (∀ w0, Below w.heap.size w w0 → (convert 22 9 (.slice ot t.length ct)).run Tryz.prog w0 = .ok (.string (strOfNums (nums t))) w0) := fun w0 hb => conv ct (Xt.keep hb)
 have HR : Hid (∀ j : Nat, j ≤ t.length → ∀ w0 lo lc, TI w0 lo lc A → Calls Tryz.prog 13 #[.agg #[.int .i64 K, .int .i64 N, .slice lo m lc], .int .u8 (c : Int), .int .i64 (j : Int)] w0 fun e w' => e = .returned (.tuple #[.int .i64 (Tw.cn t c j : Nat), .int .i64 0]) ∧ Below w0.heap.size w0 w') := fun j hj w0 lo lc h => by
  have := rank_t vcA vrA lo lc A c j w0 h hc ⟨by omega, by omega⟩ (fun _ _ => trivial)
  have q := htt.tr c j hj
  rw [q.1, q.2, ← hK, ← hN, ← hm] at this
  exact this
 have R1 := Hid.mkt (HR.out t.length (Nat.le_refl _))
 rw [← hM.out] at R1
 have k2 : (1 : Int) ≤ kd := by omega
 by_cases hk : 0 ≤ k ∧ k < (M : Int)
 ·obtain ⟨k, rfl⟩ := Int.eq_ofNat_of_zero_le hk.1
  obtain ⟨i, hi', g1, g2⟩ := Tw.sel_is t c k t.length (Nat.le_refl _) (by rw [← hM.out]; omega)
  have HS : Hid (∀ w0 lo lc, TI w0 lo lc A → Calls Tryz.prog 21 #[.agg #[.int .i64 K, .int .i64 N, .slice lo m lc], .int .u8 (c : Int), .int .i64 (k : Int)] w0 fun e w' => e = .returned (.tuple #[.int .i64 (i : Int), .int .i64 0]) ∧ Below w0.heap.size w0 w') := fun w0 lo lc h => by
   have := select_t vcA vrA lo lc A c k w0 h hc hk_ (fun _ _ => trivial)
   have q := ts_in c k i htt.ok (by rw [htt.txt]; exact hi') (by rw [htt.txt]; exact g1) (by rw [htt.txt]; exact g2)
   rw [q.1, q.2, ← hK, ← hN, ← hm] at this
   exact this
  have R2 := Hid.mkt (HR.out i (by omega))
  rw [g2] at R2
  have HA : Hid (∀ w0 lo lc, TI w0 lo lc A → Calls Tryz.prog 12 #[.agg #[.int .i64 K, .int .i64 N, .slice lo m lc], .int .i64 (i : Int)] w0 fun e w' => e = .returned (.tuple #[.int .u8 (c : Nat), .int .i64 0]) ∧ Below w0.heap.size w0 w') := fun w0 lo lc h => by
   have := access_t vcA vrA lo lc A i w0 h ⟨by omega, by omega⟩ (fun _ _ => trivial)
   have q := htt.ta i hi'
   rw [q.1, q.2, g1, ← hK, ← hN, ← hm] at this
   exact this
  have hk3 : (k : Int) < (M : Int) := hk.2
  have dk : decide (k < M) = true := decide_eq_true (by omega)
  clear htt hA hK hN hm HR Xt Ft hB hL hkd_ hk_ hk g1 g2
  generalize strOfNums (nums t) = S at *
  go_enter Tryz.func7, Tryz.ntmps7
  go_wp2_with fail
  refine (H1.out _ (Below.refl _ _)).mono ?_
  rintro e w1 ⟨lo, lc, rfl, hP, hb⟩
  have hw := hb
  clear H1 hb
  have hX := Cel.new w1 [.int .i64 K, .int .i64 N, .slice lo m lc] 26
  have b1 := below_alloc w1 (.cells [.int .i64 K, .int .i64 N, .slice lo m lc].toArray 26)
  replace hP := hP.keep b1
  replace hw := hw.trans (b1.mono hw.size)
  clear b1
  go_wp2
  refine region_g [] (fun w' => Cel w' w1.heap.size [.int .i64 K, .int .i64 N, .slice lo m lc] 26 ∧ TI w' lo lc A ∧ Below w.heap.size w w') (by kernel_rfl) ?_
  have hS : (fun w' => Cel w' w1.heap.size [.int .i64 K, .int .i64 N, .slice lo m lc] 26 ∧ TI w' lo lc A ∧ Below w.heap.size w w') (w1.alloc (.cells [.int .i64 K, .int .i64 N, .slice lo m lc].toArray 26)).drew := ⟨hX.drew, hP.keep ((Below.refl _ _).drew), hw.drew⟩
  clear hX hP hw
  generalize (w1.alloc (.cells [.int .i64 K, .int .i64 N, .slice lo m lc].toArray 26)).drew = V at *
  refine AnyG.tk 0 hS ?_
  refine AnyG.tk 1 hS ?_
  refine AnyG.tk 2 hS ?_
  refine AnyG.tf 3 hS rfl (fun w0 h0 => by have y0 := h0.1.cell 0 rfl; have y1 := h0.1.cell 1 rfl; have y2 := h0.1.cell 2 rfl; go_simp; try with_reducible rfl) ?_
  refine AnyG.o1 4 ?_
  intro K hK
  go_simp
  refine (HC.out _ _ _ hS.2.1).mono ?_
  rintro e w2 ⟨rfl, hb⟩
  have hS2 := And.intro (hS.1.kept hb) (And.intro (hS.2.1.keep hb) (hS.2.2.trans (hb.mono hS.2.2.size)))
  clear hb hS
  refine hK.out _ _ (fun _ => hS2) ?_
  clear hK K
  try simp only [Act.put, yq0, yq1, yq2, yq3, yq4, yq5]
  refine AnyG.tk 5 hS2 ?_
  refine AnyG.tk 6 hS2 ?_
  refine AnyG.tk 7 hS2 ?_
  refine AnyG.tf 8 hS2 rfl (fun w0 h0 => by have y0 := h0.1.cell 0 rfl; have y1 := h0.1.cell 1 rfl; have y2 := h0.1.cell 2 rfl; go_simp; try with_reducible rfl) ?_
  refine AnyG.tk 11 hS2 ?_
  refine AnyG.tf 12 hS2 rfl (fun w0 h0 => by have cv := CV.out w0 h0.2.2; go_simp; try with_reducible rfl) ?_
  refine AnyG.o1 9 ?_
  intro K hK
  go_simp
  refine (HT.out _ _ _ hS2.2.1).mono ?_
  rintro e w3 ⟨bo, bc, rfl, hcv, hb⟩
  have hS3 := And.intro (hS2.1.kept hb) (And.intro (hS2.2.1.keep hb) (hS2.2.2.trans (hb.mono hS2.2.2.size)))
  clear hb hS2
  refine hK.out _ _ (fun _ => hS3) ?_
  clear hK K
  try simp only [Act.put, yq0, yq1, yq2, yq3, yq4, yq5]
  refine AnyG.o1 10 ?_
  intro K hK
  go_simp
  refine hK.out _ _ (fun _ => hS3) ?_
  clear hK K
  try simp only [Act.put, yq0, yq1, yq2, yq3, yq4, yq5]
  refine AnyG.tk 13 hS3 ?_
  refine AnyG.tk 14 hS3 ?_
  refine AnyG.tk 15 hS3 ?_
  refine AnyG.tk 16 hS3 ?_
  refine AnyG.done (by kernel_rfl) ?_ _
  obtain ⟨hX, hP, hw⟩ := hS3
  have y0 := hX.cell 0 rfl
  have y1 := hX.cell 1 rfl
  have y2 := hX.cell 2 rfl
  clear hcv CV HT HC
  go_wp2_with fail
  refine (R1.out _ _ _ hP).mono ?_
  rintro e w4 ⟨rfl, hb⟩
  replace hP := hP.keep hb
  replace hX := hX.kept hb
  replace hw := hw.trans (hb.mono hw.size)
  clear hb R1 y0 y1 y2
  have y0 := hX.cell 0 rfl
  have y1 := hX.cell 1 rfl
  have y2 := hX.cell 2 rfl
  go_wp2_with fail
  refine (HS.out _ _ _ hP).mono ?_
  rintro e w5 ⟨rfl, hb⟩
  replace hP := hP.keep hb
  replace hX := hX.kept hb
  replace hw := hw.trans (hb.mono hw.size)
  clear hb HS y0 y1 y2
  have y0 := hX.cell 0 rfl
  have y1 := hX.cell 1 rfl
  have y2 := hX.cell 2 rfl
  go_wp2_with fail
  refine (R2.out _ _ _ hP).mono ?_
  rintro e w6 ⟨rfl, hb⟩
  replace hP := hP.keep hb
  replace hX := hX.kept hb
  replace hw := hw.trans (hb.mono hw.size)
  clear hb R2 y0 y1 y2
  have y0 := hX.cell 0 rfl
  have y1 := hX.cell 1 rfl
  have y2 := hX.cell 2 rfl
  go_wp2_with fail
  refine (HA.out _ _ _ hP).mono ?_
  rintro e w7 ⟨rfl, hb⟩
  replace hw := hw.trans (hb.mono hw.size)
  clear hb HA y0 y1 y2 hP hX
  go_wp2_with fail
  refine (heads_c _ (GW.kept (by first | assumption | exact hS.2.2.2.2 | exact hS.1.1.2 | exact Below.refl _ _))).mono ?_
  rintro e w9 ⟨rfl, hb⟩
  replace hw := hw.trans (hb.mono hw.size)
  go_wp2
  go_ret
  exact ⟨rfl, hw⟩
 ·have HS : Hid (∀ w0 lo lc, TI w0 lo lc A → Calls Tryz.prog 21 #[.agg #[.int .i64 K, .int .i64 N, .slice lo m lc], .int .u8 (c : Int), .int .i64 k] w0 fun e w' => e = .returned (.tuple #[.int .i64 0, .int .i64 3]) ∧ Below w0.heap.size w0 w') := fun w0 lo lc h => by
   have := select_t vcA vrA lo lc A c k w0 h hc hk_ (fun _ _ => trivial)
   have q := ts_out c k htt.ok (by rw [htt.txt, ← hM.out]; exact hk)
   rw [q.1, q.2, ← hK, ← hN, ← hm] at this
   exact this
  clear htt hA hK hN hm HR Xt Ft hB hL hkd_ hk_
  generalize strOfNums (nums t) = S at *
  by_cases kk : k < 0
  ·have kk2 : ¬ (0 : Int) ≤ k := by omega
   clear hk
   go_enter Tryz.func7, Tryz.ntmps7
   go_wp2_with fail
   refine (H1.out _ (Below.refl _ _)).mono ?_
   rintro e w1 ⟨lo, lc, rfl, hP, hb⟩
   have hw := hb
   clear H1 hb
   have hX := Cel.new w1 [.int .i64 K, .int .i64 N, .slice lo m lc] 26
   have b1 := below_alloc w1 (.cells [.int .i64 K, .int .i64 N, .slice lo m lc].toArray 26)
   replace hP := hP.keep b1
   replace hw := hw.trans (b1.mono hw.size)
   clear b1
   go_wp2
   refine region_g [] (fun w' => Cel w' w1.heap.size [.int .i64 K, .int .i64 N, .slice lo m lc] 26 ∧ TI w' lo lc A ∧ Below w.heap.size w w') (by kernel_rfl) ?_
   have hS : (fun w' => Cel w' w1.heap.size [.int .i64 K, .int .i64 N, .slice lo m lc] 26 ∧ TI w' lo lc A ∧ Below w.heap.size w w') (w1.alloc (.cells [.int .i64 K, .int .i64 N, .slice lo m lc].toArray 26)).drew := ⟨hX.drew, hP.keep ((Below.refl _ _).drew), hw.drew⟩
   clear hX hP hw
   generalize (w1.alloc (.cells [.int .i64 K, .int .i64 N, .slice lo m lc].toArray 26)).drew = V at *
   refine AnyG.tk 0 hS ?_
   refine AnyG.tk 1 hS ?_
   refine AnyG.tk 2 hS ?_
   refine AnyG.tf 3 hS rfl (fun w0 h0 => by have y0 := h0.1.cell 0 rfl; have y1 := h0.1.cell 1 rfl; have y2 := h0.1.cell 2 rfl; go_simp; try with_reducible rfl) ?_
   refine AnyG.o1 4 ?_
   intro K hK
   go_simp
   refine (HC.out _ _ _ hS.2.1).mono ?_
   rintro e w2 ⟨rfl, hb⟩
   have hS2 := And.intro (hS.1.kept hb) (And.intro (hS.2.1.keep hb) (hS.2.2.trans (hb.mono hS.2.2.size)))
   clear hb hS
   refine hK.out _ _ (fun _ => hS2) ?_
   clear hK K
   try simp only [Act.put, yq0, yq1, yq2, yq3, yq4, yq5]
   refine AnyG.tk 5 hS2 ?_
   refine AnyG.tk 6 hS2 ?_
   refine AnyG.tk 7 hS2 ?_
   refine AnyG.tf 8 hS2 rfl (fun w0 h0 => by have y0 := h0.1.cell 0 rfl; have y1 := h0.1.cell 1 rfl; have y2 := h0.1.cell 2 rfl; go_simp; try with_reducible rfl) ?_
   refine AnyG.tk 11 hS2 ?_
   refine AnyG.tf 12 hS2 rfl (fun w0 h0 => by have cv := CV.out w0 h0.2.2; go_simp; try with_reducible rfl) ?_
   refine AnyG.o1 9 ?_
   intro K hK
   go_simp
   refine (HT.out _ _ _ hS2.2.1).mono ?_
   rintro e w3 ⟨bo, bc, rfl, hcv, hb⟩
   have hS3 := And.intro (hS2.1.kept hb) (And.intro (hS2.2.1.keep hb) (hS2.2.2.trans (hb.mono hS2.2.2.size)))
   clear hb hS2
   refine hK.out _ _ (fun _ => hS3) ?_
   clear hK K
   try simp only [Act.put, yq0, yq1, yq2, yq3, yq4, yq5]
   refine AnyG.o1 10 ?_
   intro K hK
   go_simp
   refine hK.out _ _ (fun _ => hS3) ?_
   clear hK K
   try simp only [Act.put, yq0, yq1, yq2, yq3, yq4, yq5]
   refine AnyG.tk 13 hS3 ?_
   refine AnyG.tk 14 hS3 ?_
   refine AnyG.tk 15 hS3 ?_
   refine AnyG.tk 16 hS3 ?_
   refine AnyG.done (by kernel_rfl) ?_ _
   obtain ⟨hX, hP, hw⟩ := hS3
   have y0 := hX.cell 0 rfl
   have y1 := hX.cell 1 rfl
   have y2 := hX.cell 2 rfl
   clear hcv CV HT HC
   go_wp2_with fail
   refine (R1.out _ _ _ hP).mono ?_
   rintro e w4 ⟨rfl, hb⟩
   replace hP := hP.keep hb
   replace hX := hX.kept hb
   replace hw := hw.trans (hb.mono hw.size)
   clear hb R1 y0 y1 y2
   have y0 := hX.cell 0 rfl
   have y1 := hX.cell 1 rfl
   have y2 := hX.cell 2 rfl
   go_wp2_with fail
   refine (HS.out _ _ _ hP).mono ?_
   rintro e w5 ⟨rfl, hb⟩
   replace hP := hP.keep hb
   replace hX := hX.kept hb
   replace hw := hw.trans (hb.mono hw.size)
   clear hb HS y0 y1 y2
   clear hP hX
   go_wp2_with fail
   refine (heads_c _ (GW.kept (by first | assumption | exact hS.2.2.2.2 | exact hS.1.1.2 | exact Below.refl _ _))).mono ?_
   rintro e w9 ⟨rfl, hb⟩
   replace hw := hw.trans (hb.mono hw.size)
   go_wp2
   go_ret
   exact ⟨rfl, hw⟩
  ·have kk2 : (0 : Int) ≤ k := by omega
   have kk3 : ¬ k < (M : Int) := by omega
   clear hk
   go_enter Tryz.func7, Tryz.ntmps7
   go_wp2_with fail
   refine (H1.out _ (Below.refl _ _)).mono ?_
   rintro e w1 ⟨lo, lc, rfl, hP, hb⟩
   have hw := hb
   clear H1 hb
   have hX := Cel.new w1 [.int .i64 K, .int .i64 N, .slice lo m lc] 26
   have b1 := below_alloc w1 (.cells [.int .i64 K, .int .i64 N, .slice lo m lc].toArray 26)
   replace hP := hP.keep b1
   replace hw := hw.trans (b1.mono hw.size)
   clear b1
   go_wp2
   refine region_g [] (fun w' => Cel w' w1.heap.size [.int .i64 K, .int .i64 N, .slice lo m lc] 26 ∧ TI w' lo lc A ∧ Below w.heap.size w w') (by kernel_rfl) ?_
   have hS : (fun w' => Cel w' w1.heap.size [.int .i64 K, .int .i64 N, .slice lo m lc] 26 ∧ TI w' lo lc A ∧ Below w.heap.size w w') (w1.alloc (.cells [.int .i64 K, .int .i64 N, .slice lo m lc].toArray 26)).drew := ⟨hX.drew, hP.keep ((Below.refl _ _).drew), hw.drew⟩
   clear hX hP hw
   generalize (w1.alloc (.cells [.int .i64 K, .int .i64 N, .slice lo m lc].toArray 26)).drew = V at *
   refine AnyG.tk 0 hS ?_
   refine AnyG.tk 1 hS ?_
   refine AnyG.tk 2 hS ?_
   refine AnyG.tf 3 hS rfl (fun w0 h0 => by have y0 := h0.1.cell 0 rfl; have y1 := h0.1.cell 1 rfl; have y2 := h0.1.cell 2 rfl; go_simp; try with_reducible rfl) ?_
   refine AnyG.o1 4 ?_
   intro K hK
   go_simp
   refine (HC.out _ _ _ hS.2.1).mono ?_
   rintro e w2 ⟨rfl, hb⟩
   have hS2 := And.intro (hS.1.kept hb) (And.intro (hS.2.1.keep hb) (hS.2.2.trans (hb.mono hS.2.2.size)))
   clear hb hS
   refine hK.out _ _ (fun _ => hS2) ?_
   clear hK K
   try simp only [Act.put, yq0, yq1, yq2, yq3, yq4, yq5]
   refine AnyG.tk 5 hS2 ?_
   refine AnyG.tk 6 hS2 ?_
   refine AnyG.tk 7 hS2 ?_
   refine AnyG.tf 8 hS2 rfl (fun w0 h0 => by have y0 := h0.1.cell 0 rfl; have y1 := h0.1.cell 1 rfl; have y2 := h0.1.cell 2 rfl; go_simp; try with_reducible rfl) ?_
   refine AnyG.tk 11 hS2 ?_
   refine AnyG.tf 12 hS2 rfl (fun w0 h0 => by have cv := CV.out w0 h0.2.2; go_simp; try with_reducible rfl) ?_
   refine AnyG.o1 9 ?_
   intro K hK
   go_simp
   refine (HT.out _ _ _ hS2.2.1).mono ?_
   rintro e w3 ⟨bo, bc, rfl, hcv, hb⟩
   have hS3 := And.intro (hS2.1.kept hb) (And.intro (hS2.2.1.keep hb) (hS2.2.2.trans (hb.mono hS2.2.2.size)))
   clear hb hS2
   refine hK.out _ _ (fun _ => hS3) ?_
   clear hK K
   try simp only [Act.put, yq0, yq1, yq2, yq3, yq4, yq5]
   refine AnyG.o1 10 ?_
   intro K hK
   go_simp
   refine hK.out _ _ (fun _ => hS3) ?_
   clear hK K
   try simp only [Act.put, yq0, yq1, yq2, yq3, yq4, yq5]
   refine AnyG.tk 13 hS3 ?_
   refine AnyG.tk 14 hS3 ?_
   refine AnyG.tk 15 hS3 ?_
   refine AnyG.tk 16 hS3 ?_
   refine AnyG.done (by kernel_rfl) ?_ _
   obtain ⟨hX, hP, hw⟩ := hS3
   have y0 := hX.cell 0 rfl
   have y1 := hX.cell 1 rfl
   have y2 := hX.cell 2 rfl
   clear hcv CV HT HC
   go_wp2_with fail
   refine (R1.out _ _ _ hP).mono ?_
   rintro e w4 ⟨rfl, hb⟩
   replace hP := hP.keep hb
   replace hX := hX.kept hb
   replace hw := hw.trans (hb.mono hw.size)
   clear hb R1 y0 y1 y2
   have y0 := hX.cell 0 rfl
   have y1 := hX.cell 1 rfl
   have y2 := hX.cell 2 rfl
   go_wp2_with fail
   refine (HS.out _ _ _ hP).mono ?_
   rintro e w5 ⟨rfl, hb⟩
   replace hP := hP.keep hb
   replace hX := hX.kept hb
   replace hw := hw.trans (hb.mono hw.size)
   clear hb HS y0 y1 y2
   clear hP hX
   go_wp2_with fail
   refine (heads_c _ (GW.kept (by first | assumption | exact hS.2.2.2.2 | exact hS.1.1.2 | exact Below.refl _ _))).mono ?_
   rintro e w9 ⟨rfl, hb⟩
   replace hw := hw.trans (hb.mono hw.size)
   go_wp2
   go_ret
   exact ⟨rfl, hw⟩
theorem door_met (os : Os) (args : Array Value) : laidMetH Tryz.prog [("errors.errorType", Rows.laid_errors_errorType), ("haystack/rrr.ways", Rows.laid_haystack_rrr_ways), ("haystack/rrr.widths", Rows.laid_haystack_rrr_widths)] ((World.doorLaid Tryz.prog 400 os).forCall (fun _ _ => 0) ⟨#[], args, []⟩).memory :=
 laidMetH_of_parts3 (fuel := 8) (laidMet_of_run' 8 (by kernel_rfl) (by kernel_rfl)) (by kernel_rfl) (by kernel_rfl)
theorem lifted (os : Os) (started : os.Started) (H : Type) (enc : TypeId × Value → H) :
  ReturnsInHanded {} Tryz.checked os 7 .any (fun w args => (Rows.treeBackSpec.pre enc Tryz.prog Tryz.f7 [] false w args ∧ laidMetH Tryz.prog [("errors.errorType", Rows.laid_errors_errorType), ("haystack/rrr.ways", Rows.laid_haystack_rrr_ways), ("haystack/rrr.widths", Rows.laid_haystack_rrr_widths)] w) ∧ sizedMet enc Tryz.prog Tryz.f7 (OpenSpec.ofChange Rows.treeBackSpec) false w args)
   (Rows.treeBackSpec.post enc Tryz.prog Tryz.f7 false true false false) := by
 refine returnsInHanded_of_change_and (C := Tryz.checked) (X := fun w _ => laidMetH Tryz.prog [("errors.errorType", Rows.laid_errors_errorType), ("haystack/rrr.ways", Rows.laid_haystack_rrr_ways), ("haystack/rrr.widths", Rows.laid_haystack_rrr_widths)] w) (fun _ _ _ hh h => h.of_heap hh) own started (by kernel_rfl) Tryz.func7
  (ChangeSpec.witness_shaped (enc := enc) (C := Tryz.checked) (os := os) (X := fun w _ => laidMetH Tryz.prog [("errors.errorType", Rows.laid_errors_errorType), ("haystack/rrr.ways", Rows.laid_haystack_rrr_ways), ("haystack/rrr.widths", Rows.laid_haystack_rrr_widths)] w) false (World.doorLaid Tryz.prog 400 os) #[.int .i64 0, .slice none 0 0, .int .u8 0, .int .i64 0] 8 rfl (World.shaped_of_RefB (by kernel_rfl) (by kernel_rfl)) (by kernel_rfl) (by kernel_rfl) (by kernel_rfl) (door_met os _)) ?_
 intro W base args ds gs before hval0 hW _ _ hL _
 have hval : ∀ (j : Nat) t v, Tryz.f7.params[j]? = some t → args[j]? = some v → Value.okWide Tryz.prog W .any base t v := hval0
 have hW' := hW
 obtain ⟨p, q, hA0, hV, rfl, hfz, hnd⟩ := hW
 have hA : DataW.TrodAll enc Tryz.prog W 0 (fun _ => true) true Tryz.f7.params.toList args.toList ds p := hA0
 rw [Tryz.params7] at hA hval
 obtain ⟨v0, vs0, d0, ds0, p0, q0, hargs, rfl, rfl, h0, r0⟩ := trodAll_cons hA
 obtain ⟨v1, vs1, d1, ds1, p1, q1, rfl, rfl, rfl, h1, r1⟩ := trodAll_cons r0
 obtain ⟨v2, vs2, d2, ds2, p2, q2, rfl, rfl, rfl, h2, r2⟩ := trodAll_cons r1
 obtain ⟨v3, vs3, d3, ds3, p3, q3, rfl, rfl, rfl, h3, r3⟩ := trodAll_cons r2
 obtain ⟨rfl, rfl, rfl⟩ := trodAll_nil r3
 obtain rfl : args = #[v0, v1, v2, v3] := by cases args; simp_all
 obtain ⟨rfl, rfl⟩ := trodVars_none hV
 obtain ⟨kd, rfl, rfl, rfl, w0⟩ := open_int Tryz.underlying3 (hval 0 3 v0 rfl rfl) h0
 have k1 := h1
 have lt1 : ∀ x ∈ p1, x.block < W.heap.size := by obtain ⟨m, hm⟩ := k1; exact DataW.trod_lt m _ _ _ hm
 obtain ⟨ot, t, ct, rfl, b11, b12, b13⟩ := open_bytes (hval 1 22 v1 rfl rfl) h1
 obtain ⟨c, rfl, rfl, rfl, w2⟩ := open_int Tryz.underlying5 (hval 2 5 v2 rfl rfl) h2
 obtain ⟨k, rfl, rfl, rfl, w3⟩ := open_int Tryz.underlying3 (hval 3 3 v3 rfl rfl) h3
 clear hA0 hval0
 refine (walk W (gv_of_laid hL) kd (i64_wf _ w0) ot t ct b11 b12 b13 c (u8_wf _ w2) k (i64_wf _ w3)).mono fun e W' ⟨he, bel⟩ => ?_
 subst he
 exact ⟨_, rfl, _, _, _, [], _, [], hW', trodAll_mk1 (shut_bool Tryz.underlying4 _), (trodAll_cons_mk (shut_int Tryz.underlying3 w0) (trodAll_cons_mk (Below.trod laidOut (by kernel_rfl) (of_decide_eq_true (by kernel_rfl)) k1 bel lt1) (trodAll_cons_mk (shut_int Tryz.underlying5 w2) (trodAll_cons_mk (shut_int Tryz.underlying3 w3) trodAll_mk0)))), rfl, bel.frame _, fun h => by cases h⟩
theorem closed : joinedFacts Tryz.prog 7 Tryz.f7 Rows.treeBackSpec Rows.treeBackRow = true := by
 unfold joinedFacts
 repeat' (with_reducible apply and_tt)
 all_goals decide +kernel
theorem over : Rows.treeBackRow.holds Tryz.pinned (OpenSpec.ofChange Rows.treeBackSpec) :=
 OpenClaim.holds_of_wide 7 Tryz.f7 rfl rfl rfl rfl rfl rfl rfl ⟨rfl, rfl, rfl, rfl, rfl⟩ rfl rfl rfl rfl rfl (by kernel_rfl) Tryz.func7 closed
  (of_decide_eq_true (by kernel_rfl)) (by unfold Func.isWrapper; first | (rw [if_pos (by decide +kernel)]; kernel_rfl) | (rw [if_neg (by decide +kernel)]; exact ⟨rfl, rfl⟩))
  (fun os started H enc _ => lifted os started H enc)
theorem proved : Rows.TreeBackCardSaid :=
 Claim7.holds_tied_plain_at .later [] [.handle, .data, .data] true (true, "682ab52273e9416ee50490cc01aab7b7bbe3c1ea5b76be4e26232a9cc66b42fb") true
  over (fun _ h => by cases h) (by kernel_rfl) (fun _ h => by cases h) treeBack_row_tie rfl ⟨rfl, rfl⟩ (by kernel_rfl) rfl
  (fun f fn hf hfn => by
   obtain rfl : f = 7 := Option.some.inj ((show Tryz.prog.funcNamed "haystack/haystacklaw12.TreeBack" = some 7 by kernel_rfl).symm.trans hf) |>.symm
   obtain rfl : fn = Tryz.f7 := (Option.some.inj (Tryz.func7.symm.trans hfn)).symm
   exact ⟨by kernel_rfl, fun j t ht => by
    rw [Tryz.params7] at ht
    have hm : t ∈ [3, 22, 5, 3] := by simpa using Array.mem_of_getElem? ht
    have hall : ([3, 22, 5, 3].all fun u => !Tryz.prog.wantsStandIn u) = true := by kernel_rfl
    exact (show Tryz.prog.wantsStandIn t = false by simpa using List.all_eq_true.1 hall t hm)⟩)
  (by kernel_rfl)
end Go.Proofs.YtfnkklkdajlhlaaGreatDoor.treeBack
namespace Go.Proofs.YtfnkklkdajlhlaaGreatDoor
theorem treeBack_holds : Rows.TreeBackCardSaid := treeBack.proved
#print axioms treeBack_holds
end Go.Proofs.YtfnkklkdajlhlaaGreatDoor
