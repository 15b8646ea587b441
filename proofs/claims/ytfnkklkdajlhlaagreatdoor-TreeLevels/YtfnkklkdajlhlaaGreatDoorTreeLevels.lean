/-
  TreeLevels: each row has as many ones as symbols have that bit.
-/
import Derived.Test.YtfnkklkdajlhlaaGreatDoorL25
import Derived.Test.YtfnkklkdajlhlaaGreatDoorL27
import Derived.Test.YtfnkklkdajlhlaaGreatDoorL01
import Derived.Test.YtfnkklkdajlhlaaGreatDoorCards
import Derived.Test.YtfnkklkdajlhlaaGreatDoorTie
import Derived.ChangeOld
import Derived.LaidMore
import Derived.SevenTiedAt
set_option linter.unusedVariables false
set_option linter.unusedSimpArgs false
set_option maxRecDepth 100000
set_option maxHeartbeats 16000000
namespace Go.Proofs.YtfnkklkdajlhlaaGreatDoor.treeLevels
open Go.ChangeShapes Go.WideShapes Go.ChangeAt Go.RowKit Num Bit
theorem walk (w : World) (GW : GV w) (kd : Int) (hkd_ : -9223372036854775808 ≤ kd ∧ kd ≤ 9223372036854775807) (ot : Option Addr) (t : List Nat) (ct : Nat) (Xt : Bd w ot t) (Ft : Bytes t) (Ct : t.length ≤ ct) :
  Calls Tryz.prog 3 #[.int .i64 kd, .slice ot t.length ct] w fun e w' => e = .returned (.bool true) ∧ Below w.heap.size w w' := by
 by_cases hL : 600 < t.length
 ·have hL2 : (600 : Int) < (t.length : Int) := by omega
  go_enter Tryz.func3, Tryz.ntmps3
  go_wp2_with fail
  refine (heads_c _ (GW.kept (by first | assumption | exact hS.2.2.2.2 | exact hS.1.1.2 | exact Below.refl _ _))).mono ?_
  rintro e w9 ⟨rfl, hb⟩
  go_wp2
  go_ret
  exact ⟨rfl, hb⟩
 have hL2 : ¬ (600 : Int) < (t.length : Int) := by omega
 by_cases k0 : kd < 1
 ·clear hL
  go_enter Tryz.func3, Tryz.ntmps3
  go_wp2_with fail
  refine (heads_c _ (GW.kept (by first | assumption | exact hS.2.2.2.2 | exact hS.1.1.2 | exact Below.refl _ _))).mono ?_
  rintro e w9 ⟨rfl, hb⟩
  go_wp2
  go_ret
  exact ⟨rfl, hb⟩
 by_cases k1 : 3 < kd
 ·have k2 : (1 : Int) ≤ kd := by omega
  clear hL
  go_enter Tryz.func3, Tryz.ntmps3
  go_wp2_with fail
  refine (heads_c _ (GW.kept (by first | assumption | exact hS.2.2.2.2 | exact hS.1.1.2 | exact Below.refl _ _))).mono ?_
  rintro e w9 ⟨rfl, hb⟩
  go_wp2
  go_ret
  exact ⟨rfl, hb⟩
 have hB := Ft.byt
 have htt := tt_tB kd t (by omega) (by omega) hB (by omega)
 obtain ⟨A, hA⟩ : ∃ A, A = tB kd t := ⟨_, rfl⟩
 rw [← hA] at htt
 obtain ⟨K, hK⟩ : ∃ K, K = A.K := ⟨_, rfl⟩
 obtain ⟨N, hN⟩ : ∃ N, N = A.N := ⟨_, rfl⟩
 obtain ⟨m, hm⟩ : ∃ m, m = A.av.length := ⟨_, rfl⟩
 have H1 : Hid (∀ w0, Below w.heap.size w w0 → Calls Tryz.prog 9 #[.int .i64 kd, .slice ot t.length ct] w0 fun e w' => ∃ lo lc, e = .returned (.tuple #[.agg #[.int .i64 K, .int .i64 N, .slice lo m lc], .int .i64 0]) ∧ TI w' lo lc A ∧ Below w0.heap.size w0 w') := fun w0 h => by
  have := build_t kd ot t ct w0 hkd_ (Xt.keep h) hB (by omega) (GW.kept h)
  rw [(tBx_ok kd t (by omega) (by omega)).1, (tBx_ok kd t (by omega) (by omega)).2, ← hA, ← hK, ← hN, ← hm] at this
  exact this
 have hm8 : m = 8 := by rw [hm]; exact htt.e
 subst hm8
 have k2 : (1 : Int) ≤ kd := by omega
 obtain ⟨n, hn⟩ : ∃ n, Hid (n = t.length) := ⟨_, rfl⟩
 have hn6 : n ≤ 600 := by rw [hn.out]; omega
 have HB : Hid (∀ q, q < 8 → ∀ w0 b off lc, TI w0 (some ⟨b, off, none⟩) lc A → ∃ (cs : List Value) (X : List Nat), w0.rangeAt b (off + q * 22) cs ∧ (Tryz.prog.info? 45).map (·.size) = some cs.length ∧ (∀ w1 bo bc, Wd w1 bo X → Calls Tryz.prog 11 #[.agg #[.int .i64 (n : Int), .slice bo X.length bc], .int .i64 (n : Int)] w1 fun e w' => e = .returned (.int .i64 (Tw.on t q n : Nat)) ∧ Below w1.heap.size w1 w') ∧ Calls Tryz.prog 10 #[.agg cs.toArray] w0 fun e w' => ∃ bo bc, e = .returned (.agg #[.int .i64 (n : Int), .slice bo X.length bc]) ∧ Wd w' bo X ∧ Below w0.heap.size w0 w') := fun q hq w0 b off lc h => by
  obtain ⟨cs, h1, h2, h3⟩ := row_at h htt q hq
  obtain ⟨_, r2, r3, r4⟩ := htt.r q hq
  have e2 := kB_chk _ r2
  rw [r3] at e2
  have e3 := Tw.ones_row t (kBX (lw A q)) q hq hB r4
  rw [← hn.out] at r3 e2 e3
  refine ⟨cs, kBX (lw A q), h1, h3, fun w1 bo bc hw => ?_, ?_⟩
  ·have := refones_c (n : Int) bo (kBX (lw A q)) bc (n : Int) w1 hw h2.fit
   rw [ones_all n _ e2, e3] at this
   exact this
  ·have := v10bits_k cs (lw A q) w0 h2
   rw [r3] at this
   refine this.mono ?_
   rintro e w' ⟨bo, bc, rfl, g1, _, g2⟩
   exact ⟨bo, bc, rfl, g1, g2⟩
 have LO : Hid (∀ w0 lo lc, TI w0 lo lc A → ∃ b off, lo = some ⟨b, off, none⟩ ∧ b < w0.heap.size) := fun w0 lo lc h => by
  obtain ⟨b, off, e, g, _⟩ := h.l (by rw [htt.e]; decide)
  exact ⟨b, off, e, g⟩
 have DD : Hid (∀ i, i < n → ∃ b off, ot = some ⟨b, off, none⟩ ∧ b < w.heap.size ∧ w.cell? ⟨b, off + i, none⟩ = some (.int .u8 (gt t i : Nat))) := fun i hi => by
  rw [hn.out] at hi
  obtain ⟨b, off, e, hbl, hcc⟩ := Xt (by omega)
  exact ⟨b, off, e, hbl, hcc i hi⟩
 have OS : Hid (∀ q i, Tw.on t q (i + 1) = Tw.on t q i + (Tw.tb q (gt t i)).toNat ∧ Tw.on t q i ≤ i ∧ gt t i < 256) := fun q i => ⟨Tw.on_succ t q i, Tw.on_le t q i, hB i⟩
 rw [← hn.out] at H1 hL2 ⊢
 clear htt hA hK hN hm Xt Ft hB hL hkd_
 go_enter Tryz.func3, Tryz.ntmps3
 go_wp2_with fail
 refine (H1.out _ (Below.refl _ _)).mono ?_
 rintro e w1 ⟨lo, lc, rfl, hP, hb⟩
 have hw := hb
 clear H1 hb
 obtain ⟨b, off, rfl, hbl⟩ := LO.out _ _ _ hP
 clear LO
 have hX := Cel.new w1 [.int .i64 K, .int .i64 N, .slice (some ⟨b, off, none⟩) 8 lc] 26
 have b1 := below_alloc w1 (.cells [.int .i64 K, .int .i64 N, .slice (some ⟨b, off, none⟩) 8 lc].toArray 26)
 replace hP := hP.keep b1
 replace hw := hw.trans (b1.mono hw.size)
 clear b1
 go_wp2
 generalize w1.heap.size = g5 at *
 go_loopw [7] (fun s wr => ∃ q : Nat, q ≤ 8 ∧ s = .int .i64 q ∧ Cel wr g5 [.int .i64 K, .int .i64 N, .slice (some ⟨b, off, none⟩) 8 lc] 26 ∧ TI wr (some ⟨b, off, none⟩) lc A ∧ Below w.heap.size w wr) (fun s _ => 8 - (intOf s).toNat)
 case atStart => exact ⟨0, Nat.zero_le _, rfl, hX, hP, hw⟩
 case round =>
  obtain ⟨q, hq, rfl, jX, jP, jw⟩ := hrel
  clear hX hP hw
  by_cases hi : q < 8
  ·have hi2 : (q : Int) < 8 := by omega
   obtain ⟨k, hk⟩ : ∃ k, 7 - q = k := ⟨_, rfl⟩
   have mk : IntKind.i64.wrap (7 - (q : Int)) = (k : Int) := by rw [IntKind.wrap_i64]; omega
   have hk0 : (0 : Int) ≤ (k : Int) := by omega
   have hk8 : (k : Int) < 8 := by omega
   go_wp2
   go_loopw [9, 8] (fun s v wr => ∃ i : Nat, i ≤ n ∧ s = .int .i64 i ∧ v = .int .i64 (Tw.on t q i : Nat) ∧ Cel wr g5 [.int .i64 K, .int .i64 N, .slice (some ⟨b, off, none⟩) 8 lc] 26 ∧ TI wr (some ⟨b, off, none⟩) lc A ∧ Below w.heap.size w wr) (fun s _ _ => n - (intOf s).toNat)
   case atStart => exact ⟨0, Nat.zero_le _, rfl, by rw [Tw.on_zero]; rfl, jX, jP, jw⟩
   case round =>
    obtain ⟨i, hin, rfl, rfl, mX, mP, mw⟩ := hrel
    clear jX jP jw
    by_cases hlt : i < n
    ·have hlt2 : (i : Int) < (n : Int) := by omega
     obtain ⟨b0, off0, rfl, hb0, hc0⟩ := DD.out i hlt
     have e2 := (mw.cell (p := ⟨b0, off0 + i, none⟩) hb0).trans hc0
     obtain ⟨o1, o2, o3⟩ := OS.out q i
     have tr := tb_rem (gt t i) q hi
     rw [hk] at tr
     have ts := Bool.toNat_le (Tw.tb q (gt t i))
     obtain ⟨O1, hO1⟩ : ∃ O1, Hid (O1 = Tw.on t q (i + 1)) := ⟨_, rfl⟩
     rw [← hO1.out] at o1
     generalize (Tw.tb q (gt t i)).toNat = B at *
     generalize Tw.on t q i = Z at *
     generalize gt t i = C at *
     have sc : (C : Int) / 2 ^ k = ((C / 2 ^ k : Nat) : Int) := shr_cast C k
     obtain ⟨Y, hY⟩ : ∃ Y, C / 2 ^ k = Y := ⟨_, rfl⟩
     rw [hY] at sc tr
     have yb : Y < 256 := by rw [← hY]; exact Nat.lt_of_le_of_lt (Nat.div_le_self _ _) o3
     have tr2 : ((Y : Int)).tmod 2 = (B : Int) := by rw [Int.tmod_eq_emod_of_nonneg (by omega)]; omega
     have wz : IntKind.i64.wrap ((Z : Int) + (B : Int)) = (O1 : Int) := by rw [IntKind.wrap_i64]; omega
     have HF := Hid.mkt (And.intro mX (And.intro mP mw))
     clear mX mP mw hc0 hY hk tr
     go_wp2
     exact ⟨⟨i + 1, by omega, by go_num, by rw [← hO1.out, o1, Int.natCast_add], HF.out⟩, by simp only [intOf]; omega⟩
    ·obtain rfl : i = n := by omega
     obtain ⟨cs, X, rg, HL0, ON0, BI0⟩ := HB.out q hi _ b off lc mP
     have HL := Hid.mkt HL0
     have ON := Hid.mkt ON0
     have BI := Hid.mkt BI0
     clear HL0 ON0 BI0 hk
     have x2 := mX.cell 2 rfl
     generalize Tw.on t q i = Z at *
     go_wp2_with (refine load_part b (off + q * 22) cs (by rfl) rfl rg Tryz.underlying45 HL.out ?_)
     refine BI.out.mono ?_
     rintro e w4 ⟨bo, bc, rfl, wd, hb4⟩
     replace mX := mX.kept hb4
     replace mP := mP.keep hb4
     replace mw := mw.trans (hb4.mono mw.size)
     clear hb4 rg x2 BI
     have c9 := Cel.new w4 [.int .i64 (i : Int), .slice bo X.length bc] 33
     have b9 := below_alloc w4 (.cells [.int .i64 (i : Int), .slice bo X.length bc].toArray 33)
     replace mX := mX.kept b9
     replace mP := mP.keep b9
     replace wd := wd.keep b9
     replace mw := mw.trans (b9.mono mw.size)
     clear b9
     go_wp2_with fail
     refine (ON.out _ _ _ wd).mono ?_
     rintro e w5 ⟨rfl, hb5⟩
     replace mX := mX.kept hb5
     replace mP := mP.keep hb5
     replace c9 := c9.kept hb5
     replace mw := mw.trans (hb5.mono mw.size)
     have z0 := c9.cell 0 rfl
     have HF := Hid.mkt (And.intro mX (And.intro mP mw))
     clear hb5 ON wd mX mP mw c9
     go_wp2
     exact ⟨⟨q + 1, by omega, by go_num, HF.out⟩, by simp only [intOf]; omega⟩
  ·obtain rfl : q = 8 := by omega
   clear HB OS DD jX jP
   go_wp2_with fail
   refine (heads_c _ (GW.kept (by first | assumption | exact hS.2.2.2.2 | exact hS.1.1.2 | exact Below.refl _ _))).mono ?_
   rintro e w9 ⟨rfl, hb⟩
   replace jw := jw.trans (hb.mono jw.size)
   go_wp2
   go_ret
   exact ⟨rfl, jw⟩
theorem door_met (os : Os) (args : Array Value) : laidMetH Tryz.prog [("errors.errorType", Rows.laid_errors_errorType), ("haystack/rrr.ways", Rows.laid_haystack_rrr_ways), ("haystack/rrr.widths", Rows.laid_haystack_rrr_widths)] ((World.doorLaid Tryz.prog 400 os).forCall (fun _ _ => 0) ⟨#[], args, []⟩).memory :=
 laidMetH_of_parts3 (fuel := 8) (laidMet_of_run' 8 (by kernel_rfl) (by kernel_rfl)) (by kernel_rfl) (by kernel_rfl)
theorem lifted (os : Os) (started : os.Started) (H : Type) (enc : TypeId × Value → H) :
  ReturnsInHanded {} Tryz.checked os 3 .any (fun w args => (Rows.treeLevelsSpec.pre enc Tryz.prog Tryz.f3 [] false w args ∧ laidMetH Tryz.prog [("errors.errorType", Rows.laid_errors_errorType), ("haystack/rrr.ways", Rows.laid_haystack_rrr_ways), ("haystack/rrr.widths", Rows.laid_haystack_rrr_widths)] w) ∧ sizedMet enc Tryz.prog Tryz.f3 (OpenSpec.ofChange Rows.treeLevelsSpec) false w args)
   (Rows.treeLevelsSpec.post enc Tryz.prog Tryz.f3 false true false false) := by
 refine returnsInHanded_of_change_and (C := Tryz.checked) (X := fun w _ => laidMetH Tryz.prog [("errors.errorType", Rows.laid_errors_errorType), ("haystack/rrr.ways", Rows.laid_haystack_rrr_ways), ("haystack/rrr.widths", Rows.laid_haystack_rrr_widths)] w) (fun _ _ _ hh h => h.of_heap hh) own started (by kernel_rfl) Tryz.func3
  (ChangeSpec.witness_shaped (enc := enc) (C := Tryz.checked) (os := os) (X := fun w _ => laidMetH Tryz.prog [("errors.errorType", Rows.laid_errors_errorType), ("haystack/rrr.ways", Rows.laid_haystack_rrr_ways), ("haystack/rrr.widths", Rows.laid_haystack_rrr_widths)] w) false (World.doorLaid Tryz.prog 400 os) #[.int .i64 0, .slice none 0 0] 8 rfl (World.shaped_of_RefB (by kernel_rfl) (by kernel_rfl)) (by kernel_rfl) (by kernel_rfl) (by kernel_rfl) (door_met os _)) ?_
 intro W base args ds gs before hval0 hW _ _ hL _
 have hval : ∀ (j : Nat) t v, Tryz.f3.params[j]? = some t → args[j]? = some v → Value.okWide Tryz.prog W .any base t v := hval0
 have hW' := hW
 obtain ⟨p, q, hA0, hV, rfl, hfz, hnd⟩ := hW
 have hA : DataW.TrodAll enc Tryz.prog W 0 (fun _ => true) true Tryz.f3.params.toList args.toList ds p := hA0
 rw [Tryz.params3] at hA hval
 obtain ⟨v0, vs0, d0, ds0, p0, q0, hargs, rfl, rfl, h0, r0⟩ := trodAll_cons hA
 obtain ⟨v1, vs1, d1, ds1, p1, q1, rfl, rfl, rfl, h1, r1⟩ := trodAll_cons r0
 obtain ⟨rfl, rfl, rfl⟩ := trodAll_nil r1
 obtain rfl : args = #[v0, v1] := by cases args; simp_all
 obtain ⟨rfl, rfl⟩ := trodVars_none hV
 obtain ⟨kd, rfl, rfl, rfl, w0⟩ := open_int Tryz.underlying3 (hval 0 3 v0 rfl rfl) h0
 have k1 := h1
 have lt1 : ∀ x ∈ p1, x.block < W.heap.size := by obtain ⟨m, hm⟩ := k1; exact DataW.trod_lt m _ _ _ hm
 obtain ⟨ot, t, ct, rfl, b11, b12, b13⟩ := open_bytes (hval 1 22 v1 rfl rfl) h1
 clear hA0 hval0
 refine (walk W (gv_of_laid hL) kd (i64_wf _ w0) ot t ct b11 b12 b13).mono fun e W' ⟨he, bel⟩ => ?_
 subst he
 exact ⟨_, rfl, _, _, _, [], _, [], hW', trodAll_mk1 (shut_bool Tryz.underlying4 _), (trodAll_cons_mk (shut_int Tryz.underlying3 w0) (trodAll_cons_mk (Below.trod laidOut (by kernel_rfl) (of_decide_eq_true (by kernel_rfl)) k1 bel lt1) trodAll_mk0)), rfl, bel.frame _, fun h => by cases h⟩
theorem closed : joinedFacts Tryz.prog 3 Tryz.f3 Rows.treeLevelsSpec Rows.treeLevelsRow = true := by
 unfold joinedFacts
 repeat' (with_reducible apply and_tt)
 all_goals decide +kernel
theorem over : Rows.treeLevelsRow.holds Tryz.pinned (OpenSpec.ofChange Rows.treeLevelsSpec) :=
 OpenClaim.holds_of_wide 3 Tryz.f3 rfl rfl rfl rfl rfl rfl rfl ⟨rfl, rfl, rfl, rfl, rfl⟩ rfl rfl rfl rfl rfl (by kernel_rfl) Tryz.func3 closed
  (of_decide_eq_true (by kernel_rfl)) (by unfold Func.isWrapper; first | (rw [if_pos (by decide +kernel)]; kernel_rfl) | (rw [if_neg (by decide +kernel)]; exact ⟨rfl, rfl⟩))
  (fun os started H enc _ => lifted os started H enc)
theorem proved : Rows.TreeLevelsCardSaid :=
 Claim7.holds_tied_plain_at .later [] [.handle, .data, .data] true (true, "682ab52273e9416ee50490cc01aab7b7bbe3c1ea5b76be4e26232a9cc66b42fb") true
  over (fun _ h => by cases h) (by kernel_rfl) (fun _ h => by cases h) treeLevels_row_tie rfl ⟨rfl, rfl⟩ (by kernel_rfl) rfl
  (fun f fn hf hfn => by
   obtain rfl : f = 3 := Option.some.inj ((show Tryz.prog.funcNamed "haystack/haystacklaw12.TreeLevels" = some 3 by kernel_rfl).symm.trans hf) |>.symm
   obtain rfl : fn = Tryz.f3 := (Option.some.inj (Tryz.func3.symm.trans hfn)).symm
   exact ⟨by kernel_rfl, fun j t ht => by
    rw [Tryz.params3] at ht
    have hm : t ∈ [3, 22] := by simpa using Array.mem_of_getElem? ht
    have hall : ([3, 22].all fun u => !Tryz.prog.wantsStandIn u) = true := by kernel_rfl
    exact (show Tryz.prog.wantsStandIn t = false by simpa using List.all_eq_true.1 hall t hm)⟩)
  (by kernel_rfl)
end Go.Proofs.YtfnkklkdajlhlaaGreatDoor.treeLevels
namespace Go.Proofs.YtfnkklkdajlhlaaGreatDoor
theorem treeLevels_holds : Rows.TreeLevelsCardSaid := treeLevels.proved
#print axioms treeLevels_holds
end Go.Proofs.YtfnkklkdajlhlaaGreatDoor
