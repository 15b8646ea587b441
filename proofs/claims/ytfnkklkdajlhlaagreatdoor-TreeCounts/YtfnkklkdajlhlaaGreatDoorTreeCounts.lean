/-
  TreeCounts: one symbol more is one count more, of just that symbol.
-/
import Derived.Test.YtfnkklkdajlhlaaGreatDoorC25
import Derived.Test.YtfnkklkdajlhlaaGreatDoorCards
import Derived.Test.YtfnkklkdajlhlaaGreatDoorTie
import Derived.ChangeOld
import Derived.LaidMore
import Derived.SevenTiedAt
set_option linter.unusedVariables false
set_option linter.unusedSimpArgs false
set_option maxRecDepth 100000
set_option maxHeartbeats 16000000
namespace Go.Proofs.YtfnkklkdajlhlaaGreatDoor.treeCounts
open Go.ChangeShapes Go.WideShapes Go.ChangeAt Go.RowKit Num Bit
theorem walk (w : World) (GW : GV w) (kd : Int) (hkd_ : -9223372036854775808 ≤ kd ∧ kd ≤ 9223372036854775807) (ot : Option Addr) (t : List Nat) (ct : Nat) (Xt : Bd w ot t) (Ft : Bytes t) (Ct : t.length ≤ ct) (i : Int) (hi_ : -9223372036854775808 ≤ i ∧ i ≤ 9223372036854775807) (c : Int) (hc_ : 0 ≤ c ∧ c < 256) :
  Calls Tryz.prog 4 #[.int .i64 kd, .slice ot t.length ct, .int .i64 i, .int .u8 c] w fun e w' => e = .returned (.bool true) ∧ Below w.heap.size w w' := by
 by_cases hL : 600 < t.length
 ·have hL2 : (600 : Int) < (t.length : Int) := by omega
  go_enter Tryz.func4, Tryz.ntmps4
  go_wp2_with fail
  refine (heads_c _ (GW.kept (by first | assumption | exact hS.2.2.2.2 | exact hS.1.1.2 | exact Below.refl _ _))).mono ?_
  rintro e w9 ⟨rfl, hb⟩
  go_wp2
  go_ret
  exact ⟨rfl, hb⟩
 have hL2 : ¬ (600 : Int) < (t.length : Int) := by omega
 by_cases i0 : i < 0
 ·clear hL
  go_enter Tryz.func4, Tryz.ntmps4
  go_wp2_with fail
  refine (heads_c _ (GW.kept (by first | assumption | exact hS.2.2.2.2 | exact hS.1.1.2 | exact Below.refl _ _))).mono ?_
  rintro e w9 ⟨rfl, hb⟩
  go_wp2
  go_ret
  exact ⟨rfl, hb⟩
 by_cases i1 : (t.length : Int) ≤ i
 ·have i2 : ¬ i < (t.length : Int) := by omega
  clear hL
  go_enter Tryz.func4, Tryz.ntmps4
  go_wp2_with fail
  refine (heads_c _ (GW.kept (by first | assumption | exact hS.2.2.2.2 | exact hS.1.1.2 | exact Below.refl _ _))).mono ?_
  rintro e w9 ⟨rfl, hb⟩
  go_wp2
  go_ret
  exact ⟨rfl, hb⟩
 by_cases k0 : kd < 1
 ·have i2 : i < (t.length : Int) := by omega
  have i3 : ¬ (t.length : Int) ≤ i := by omega
  have i4 : (0 : Int) ≤ i := by omega
  clear hL
  go_enter Tryz.func4, Tryz.ntmps4
  go_wp2_with fail
  refine (heads_c _ (GW.kept (by first | assumption | exact hS.2.2.2.2 | exact hS.1.1.2 | exact Below.refl _ _))).mono ?_
  rintro e w9 ⟨rfl, hb⟩
  go_wp2
  go_ret
  exact ⟨rfl, hb⟩
 by_cases k1 : 3 < kd
 ·have i2 : i < (t.length : Int) := by omega
  have i3 : ¬ (t.length : Int) ≤ i := by omega
  have i4 : (0 : Int) ≤ i := by omega
  have k2 : (1 : Int) ≤ kd := by omega
  clear hL
  go_enter Tryz.func4, Tryz.ntmps4
  go_wp2_with fail
  refine (heads_c _ (GW.kept (by first | assumption | exact hS.2.2.2.2 | exact hS.1.1.2 | exact Below.refl _ _))).mono ?_
  rintro e w9 ⟨rfl, hb⟩
  go_wp2
  go_ret
  exact ⟨rfl, hb⟩
 obtain ⟨i, rfl⟩ := Int.eq_ofNat_of_zero_le (show 0 ≤ i by omega)
 have hin : i < t.length := by omega
 have hB := Ft.byt
 obtain ⟨c, rfl⟩ := Int.eq_ofNat_of_zero_le hc_.1
 have hc : c < 256 := by omega
 have htt := tt_tB kd t (by omega) (by omega) hB (by omega)
 obtain ⟨A, hA⟩ : ∃ A, A = tB kd t := ⟨_, rfl⟩
 rw [← hA] at htt
 obtain ⟨K, hK⟩ : ∃ K, K = A.K := ⟨_, rfl⟩
 obtain ⟨N, hN⟩ : ∃ N, N = A.N := ⟨_, rfl⟩
 obtain ⟨m, hm⟩ : ∃ m, m = A.av.length := ⟨_, rfl⟩
 have H1 : Hid (∀ w0, Below w.heap.size w w0 → Calls Tryz.prog 9 #[.int .i64 kd, .slice ot t.length ct] w0 fun e w' => ∃ lo lc, e = .returned (.tuple #[.agg #[.int .i64 K, .int .i64 N, .slice lo m lc], .int .i64 0]) ∧ TI w' lo lc A ∧ Below w0.heap.size w0 w') := fun w0 h => by
  have := build_t kd ot t ct w0 hkd_ (Xt.keep h) hB (by omega) (GW.kept h)
  rw [(tBx_ok kd t (by omega) (by omega)).1, (tBx_ok kd t (by omega) (by omega)).2, ← hA, ← hK, ← hN, ← hm] at this
  exact this
 obtain ⟨D, hD⟩ : ∃ D, Hid (D = gt t i) := ⟨_, rfl⟩
 have hD2 : D < 256 := by rw [hD.out]; exact hB i
 have H2 : Hid (∀ w0 lo lc, TI w0 lo lc A → Calls Tryz.prog 12 #[.agg #[.int .i64 K, .int .i64 N, .slice lo m lc], .int .i64 (i : Int)] w0 fun e w' => e = .returned (.tuple #[.int .u8 (D : Nat), .int .i64 0]) ∧ Below w0.heap.size w0 w') := fun w0 lo lc h => by
  have := access_t vcA vrA lo lc A i w0 h hi_ (fun _ _ => trivial)
  have q := htt.ta i hin
  rw [q.1, q.2, ← hD.out, ← hK, ← hN, ← hm] at this
  exact this
 have H3 : Hid (∀ j : Nat, j ≤ t.length → ∀ w0 lo lc, TI w0 lo lc A → Calls Tryz.prog 13 #[.agg #[.int .i64 K, .int .i64 N, .slice lo m lc], .int .u8 (c : Int), .int .i64 (j : Int)] w0 fun e w' => e = .returned (.tuple #[.int .i64 (Tw.cn t c j : Nat), .int .i64 0]) ∧ Below w0.heap.size w0 w') := fun j hj w0 lo lc h => by
  have := rank_t vcA vrA lo lc A c j w0 h hc ⟨by omega, by omega⟩ (fun _ _ => trivial)
  have q := htt.tr c j hj
  rw [q.1, q.2, ← hK, ← hN, ← hm] at this
  exact this
 have R1 := Hid.mkt (H3.out i (by omega))
 have R2 := Hid.mkt (H3.out (i + 1) (by omega))
 have cs := Tw.cn_succ t c i
 have cl := Tw.cn_le t c i
 rw [← hD.out] at cs
 have DD : Hid (∀ w0, Below w.heap.size w w0 → ∃ b off, ot = some ⟨b, off, none⟩ ∧ w0.cell? ⟨b, off + i, none⟩ = some (.int .u8 (D : Nat))) := fun w0 hb => by
  obtain ⟨b, off, e, hbl, hcc⟩ := (Xt.keep hb) (by omega)
  exact ⟨b, off, e, by rw [hcc i hin, hD.out]⟩
 clear htt hA hK hN hm H3
 generalize Tw.cn t c (i + 1) = n1 at *
 generalize Tw.cn t c i = n0 at *
 have i1' : ((i : Int) < (t.length : Int)) := by omega
 have i3 : ¬ (t.length : Int) ≤ (i : Int) := by omega
 have k2 : (1 : Int) ≤ kd := by omega
 have di : decide ((i : Int) < 0) = false := decide_eq_false (by omega)
 have dl : decide (t.length ≤ i) = false := decide_eq_false (by omega)
 have m1 : IntKind.i64.wrap ((i : Int) + 1) = ((i + 1 : Nat) : Int) := by rw [IntKind.wrap_i64]; omega
 have m2 : IntKind.i64.wrap ((n0 : Int) + 1) = (n0 : Int) + 1 := by rw [IntKind.wrap_i64]; omega
 clear Xt Ft hB hL hkd_ hi_
 by_cases e : D = c
 ·subst e
  rw [if_pos rfl] at cs
  subst cs
  have e5 : ((n0 : Int) + 1 == (n0 : Int)) = false := by simp; omega
  go_enter Tryz.func4, Tryz.ntmps4
  go_wp2_with fail
  refine (H1.out _ (Below.refl _ _)).mono ?_
  rintro e w1 ⟨lo, lc, rfl, hP, hb⟩
  have hw := hb
  clear H1 hb
  have hX := Cel.new w1 [.int .i64 K, .int .i64 N, .slice lo m lc] 26
  have b1 := below_alloc w1 (.cells [.int .i64 K, .int .i64 N, .slice lo m lc].toArray 26)
  replace hP := hP.keep b1
  replace hw := hw.trans (b1.mono hw.size)
  clear b1
  go_wp2_with fail
  refine (H2.out _ _ _ hP).mono ?_
  rintro e w2 ⟨rfl, hb⟩
  replace hP := hP.keep hb
  replace hX := hX.kept hb
  replace hw := hw.trans (hb.mono hw.size)
  clear hb H2
  have y0 := hX.cell 0 rfl
  have y1 := hX.cell 1 rfl
  have y2 := hX.cell 2 rfl
  go_wp2_with fail
  refine (R1.out _ _ _ hP).mono ?_
  rintro e w3 ⟨rfl, hb⟩
  replace hP := hP.keep hb
  replace hX := hX.kept hb
  replace hw := hw.trans (hb.mono hw.size)
  clear hb R1 y0 y1 y2
  have y0 := hX.cell 0 rfl
  have y1 := hX.cell 1 rfl
  have y2 := hX.cell 2 rfl
  go_wp2_with fail
  refine (R2.out _ _ _ hP).mono ?_
  rintro e w4 ⟨rfl, hb⟩
  replace hw := hw.trans (hb.mono hw.size)
  clear hb R2 y0 y1 y2 hP hX
  obtain ⟨b, off, rfl, hcell⟩ := DD.out w4 hw
  clear DD
  go_wp2_with fail
  refine (heads_c _ (GW.kept (by first | assumption | exact hS.2.2.2.2 | exact hS.1.1.2 | exact Below.refl _ _))).mono ?_
  rintro e w5 ⟨rfl, hb⟩
  replace hw := hw.trans (hb.mono hw.size)
  go_wp2
  go_ret
  exact ⟨rfl, hw⟩
 ·rw [if_neg e, Nat.add_zero] at cs
  subst cs
  have e1 : ((D : Int) == (c : Int)) = false := by simp; omega
  have e2 : ((D : Int) != (c : Int)) = true := by simp; omega
  have e3 : ((n1 : Int) == (n1 : Int) + 1) = false := by simp; omega
  have e4 : ¬ D = c := e
  clear e
  go_enter Tryz.func4, Tryz.ntmps4
  go_wp2_with fail
  refine (H1.out _ (Below.refl _ _)).mono ?_
  rintro e w1 ⟨lo, lc, rfl, hP, hb⟩
  have hw := hb
  clear H1 hb
  have hX := Cel.new w1 [.int .i64 K, .int .i64 N, .slice lo m lc] 26
  have b1 := below_alloc w1 (.cells [.int .i64 K, .int .i64 N, .slice lo m lc].toArray 26)
  replace hP := hP.keep b1
  replace hw := hw.trans (b1.mono hw.size)
  clear b1
  go_wp2_with fail
  refine (H2.out _ _ _ hP).mono ?_
  rintro e w2 ⟨rfl, hb⟩
  replace hP := hP.keep hb
  replace hX := hX.kept hb
  replace hw := hw.trans (hb.mono hw.size)
  clear hb H2
  have y0 := hX.cell 0 rfl
  have y1 := hX.cell 1 rfl
  have y2 := hX.cell 2 rfl
  go_wp2_with fail
  refine (R1.out _ _ _ hP).mono ?_
  rintro e w3 ⟨rfl, hb⟩
  replace hP := hP.keep hb
  replace hX := hX.kept hb
  replace hw := hw.trans (hb.mono hw.size)
  clear hb R1 y0 y1 y2
  have y0 := hX.cell 0 rfl
  have y1 := hX.cell 1 rfl
  have y2 := hX.cell 2 rfl
  go_wp2_with fail
  refine (R2.out _ _ _ hP).mono ?_
  rintro e w4 ⟨rfl, hb⟩
  replace hw := hw.trans (hb.mono hw.size)
  clear hb R2 y0 y1 y2 hP hX
  obtain ⟨b, off, rfl, hcell⟩ := DD.out w4 hw
  clear DD
  go_wp2_with fail
  refine (heads_c _ (GW.kept (by first | assumption | exact hS.2.2.2.2 | exact hS.1.1.2 | exact Below.refl _ _))).mono ?_
  rintro e w5 ⟨rfl, hb⟩
  replace hw := hw.trans (hb.mono hw.size)
  go_wp2
  go_ret
  exact ⟨rfl, hw⟩
theorem door_met (os : Os) (args : Array Value) : laidMetH Tryz.prog [("errors.errorType", Rows.laid_errors_errorType), ("haystack/rrr.ways", Rows.laid_haystack_rrr_ways), ("haystack/rrr.widths", Rows.laid_haystack_rrr_widths)] ((World.doorLaid Tryz.prog 400 os).forCall (fun _ _ => 0) ⟨#[], args, []⟩).memory :=
 laidMetH_of_parts3 (fuel := 8) (laidMet_of_run' 8 (by kernel_rfl) (by kernel_rfl)) (by kernel_rfl) (by kernel_rfl)
theorem lifted (os : Os) (started : os.Started) (H : Type) (enc : TypeId × Value → H) :
  ReturnsInHanded {} Tryz.checked os 4 .any (fun w args => (Rows.treeCountsSpec.pre enc Tryz.prog Tryz.f4 [] false w args ∧ laidMetH Tryz.prog [("errors.errorType", Rows.laid_errors_errorType), ("haystack/rrr.ways", Rows.laid_haystack_rrr_ways), ("haystack/rrr.widths", Rows.laid_haystack_rrr_widths)] w) ∧ sizedMet enc Tryz.prog Tryz.f4 (OpenSpec.ofChange Rows.treeCountsSpec) false w args)
   (Rows.treeCountsSpec.post enc Tryz.prog Tryz.f4 false true false false) := by
 refine returnsInHanded_of_change_and (C := Tryz.checked) (X := fun w _ => laidMetH Tryz.prog [("errors.errorType", Rows.laid_errors_errorType), ("haystack/rrr.ways", Rows.laid_haystack_rrr_ways), ("haystack/rrr.widths", Rows.laid_haystack_rrr_widths)] w) (fun _ _ _ hh h => h.of_heap hh) own started (by kernel_rfl) Tryz.func4
  (ChangeSpec.witness_shaped (enc := enc) (C := Tryz.checked) (os := os) (X := fun w _ => laidMetH Tryz.prog [("errors.errorType", Rows.laid_errors_errorType), ("haystack/rrr.ways", Rows.laid_haystack_rrr_ways), ("haystack/rrr.widths", Rows.laid_haystack_rrr_widths)] w) false (World.doorLaid Tryz.prog 400 os) #[.int .i64 0, .slice none 0 0, .int .i64 0, .int .u8 0] 8 rfl (World.shaped_of_RefB (by kernel_rfl) (by kernel_rfl)) (by kernel_rfl) (by kernel_rfl) (by kernel_rfl) (door_met os _)) ?_
 intro W base args ds gs before hval0 hW _ _ hL _
 have hval : ∀ (j : Nat) t v, Tryz.f4.params[j]? = some t → args[j]? = some v → Value.okWide Tryz.prog W .any base t v := hval0
 have hW' := hW
 obtain ⟨p, q, hA0, hV, rfl, hfz, hnd⟩ := hW
 have hA : DataW.TrodAll enc Tryz.prog W 0 (fun _ => true) true Tryz.f4.params.toList args.toList ds p := hA0
 rw [Tryz.params4] at hA hval
 obtain ⟨v0, vs0, d0, ds0, p0, q0, hargs, rfl, rfl, h0, r0⟩ := trodAll_cons hA
 obtain ⟨v1, vs1, d1, ds1, p1, q1, rfl, rfl, rfl, h1, r1⟩ := trodAll_cons r0
 obtain ⟨v2, vs2, d2, ds2, p2, q2, rfl, rfl, rfl, h2, r2⟩ := trodAll_cons r1
 obtain ⟨v3, vs3, d3, ds3, p3, q3, rfl, rfl, rfl, h3, r3⟩ := trodAll_cons r2
 obtain ⟨rfl, rfl, rfl⟩ := trodAll_nil r3
 obtain rfl : args = #[v0, v1, v2, v3] := by cases args; simp_all
 obtain ⟨rfl, rfl⟩ := trodVars_none hV
 obtain ⟨kd, rfl, rfl, rfl, w0⟩ := open_int Tryz.underlying3 (hval 0 3 v0 rfl rfl) h0
 have k1 := h1
 have lt1 : ∀ x ∈ p1, x.block < W.heap.size := by obtain ⟨m, hm⟩ := k1; exact DataW.trod_lt m _ _ _ hm
 obtain ⟨ot, t, ct, rfl, b11, b12, b13⟩ := open_bytes (hval 1 22 v1 rfl rfl) h1
 obtain ⟨i, rfl, rfl, rfl, w2⟩ := open_int Tryz.underlying3 (hval 2 3 v2 rfl rfl) h2
 obtain ⟨c, rfl, rfl, rfl, w3⟩ := open_int Tryz.underlying5 (hval 3 5 v3 rfl rfl) h3
 clear hA0 hval0
 refine (walk W (gv_of_laid hL) kd (i64_wf _ w0) ot t ct b11 b12 b13 i (i64_wf _ w2) c (u8_wf _ w3)).mono fun e W' ⟨he, bel⟩ => ?_
 subst he
 exact ⟨_, rfl, _, _, _, [], _, [], hW', trodAll_mk1 (shut_bool Tryz.underlying4 _), (trodAll_cons_mk (shut_int Tryz.underlying3 w0) (trodAll_cons_mk (Below.trod laidOut (by kernel_rfl) (of_decide_eq_true (by kernel_rfl)) k1 bel lt1) (trodAll_cons_mk (shut_int Tryz.underlying3 w2) (trodAll_cons_mk (shut_int Tryz.underlying5 w3) trodAll_mk0)))), rfl, bel.frame _, fun h => by cases h⟩
theorem closed : joinedFacts Tryz.prog 4 Tryz.f4 Rows.treeCountsSpec Rows.treeCountsRow = true := by
 unfold joinedFacts
 repeat' (with_reducible apply and_tt)
 all_goals decide +kernel
theorem over : Rows.treeCountsRow.holds Tryz.pinned (OpenSpec.ofChange Rows.treeCountsSpec) :=
 OpenClaim.holds_of_wide 4 Tryz.f4 rfl rfl rfl rfl rfl rfl rfl ⟨rfl, rfl, rfl, rfl, rfl⟩ rfl rfl rfl rfl rfl (by kernel_rfl) Tryz.func4 closed
  (of_decide_eq_true (by kernel_rfl)) (by unfold Func.isWrapper; first | (rw [if_pos (by decide +kernel)]; kernel_rfl) | (rw [if_neg (by decide +kernel)]; exact ⟨rfl, rfl⟩))
  (fun os started H enc _ => lifted os started H enc)
theorem proved : Rows.TreeCountsCardSaid :=
 Claim7.holds_tied_plain_at .later [] [.handle, .data, .data] true (true, "682ab52273e9416ee50490cc01aab7b7bbe3c1ea5b76be4e26232a9cc66b42fb") true
  over (fun _ h => by cases h) (by kernel_rfl) (fun _ h => by cases h) treeCounts_row_tie rfl ⟨rfl, rfl⟩ (by kernel_rfl) rfl
  (fun f fn hf hfn => by
   obtain rfl : f = 4 := Option.some.inj ((show Tryz.prog.funcNamed "haystack/haystacklaw12.TreeCounts" = some 4 by kernel_rfl).symm.trans hf) |>.symm
   obtain rfl : fn = Tryz.f4 := (Option.some.inj (Tryz.func4.symm.trans hfn)).symm
   exact ⟨by kernel_rfl, fun j t ht => by
    rw [Tryz.params4] at ht
    have hm : t ∈ [3, 22, 3, 5] := by simpa using Array.mem_of_getElem? ht
    have hall : ([3, 22, 3, 5].all fun u => !Tryz.prog.wantsStandIn u) = true := by kernel_rfl
    exact (show Tryz.prog.wantsStandIn t = false by simpa using List.all_eq_true.1 hall t hm)⟩)
  (by kernel_rfl)
end Go.Proofs.YtfnkklkdajlhlaaGreatDoor.treeCounts
namespace Go.Proofs.YtfnkklkdajlhlaaGreatDoor
theorem treeCounts_holds : Rows.TreeCountsCardSaid := treeCounts.proved
#print axioms treeCounts_holds
end Go.Proofs.YtfnkklkdajlhlaaGreatDoor
