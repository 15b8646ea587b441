/-
  RrrSizes: a row in blocks needs at most 17 bits a block, and 64 for each eight.
-/
import Derived.Test.YtmphbnmcbonmmaaDoorM09
import Derived.Test.YtmphbnmcbonmmaaDoorM02
import Derived.Test.YtmphbnmcbonmmaaDoorCards
import Derived.Test.YtmphbnmcbonmmaaDoorTie
import Derived.ChangeOld
import Derived.LaidMore
import Derived.SevenTiedAt
namespace Go.Proofs.YtmphbnmcbonmmaaDoor.rrrSizes
open Go.ChangeShapes Go.WideShapes Go.ChangeAt Go.RowKit Num Bit Bn
set_option linter.unusedVariables false
set_option linter.unusedSimpArgs false
set_option maxRecDepth 100000


set_option maxHeartbeats 8000000 in
theorem walk (w : World) (G : GV w) (Nb : Int) (ab : Option Addr) (xb : List Nat) (cb : Nat) (hbN : -9223372036854775808 ≤ Nb ∧ Nb ≤ 9223372036854775807) (Xb : Wd w ab xb) (Fb : Fit xb) (Cb : xb.length ≤ cb) :
    Calls Tryd.prog 4 #[.agg #[.int .i64 Nb, .slice ab xb.length cb]] w fun e w' => e = .returned (.bool true) ∧ Below w.heap.size w w' := by
  by_cases q1 : 3000 < Nb
  · go_enter Tryd.func4, Tryd.ntmps4
    go_wp2_with fail
    refine (heads_c _ (by first | exact G.kept hw | exact G.kept (below_alloc w _))).mono ?_
    rintro e w9 ⟨rfl, hb⟩
    go_wp2
    go_ret
    exact ⟨rfl, (below_alloc w _).trans (hb.mono (by simp))⟩
  by_cases q2 : (3000 : Int) < (xb.length : Int)
  · go_enter Tryd.func4, Tryd.ntmps4
    go_wp2_with fail
    refine (heads_c _ (by first | exact G.kept hw | exact G.kept (below_alloc w _))).mono ?_
    rintro e w9 ⟨rfl, hb⟩
    go_wp2
    go_ret
    exact ⟨rfl, (below_alloc w _).trans (hb.mono (by simp))⟩
  have hlx : xb.length ≤ 1048576 := by omega
  have HC : Hid (∀ w0, Below w.heap.size w w0 → Calls Tryd.prog 6 #[.agg #[.int .i64 Nb, .slice ab xb.length cb]] w0 fun e w' => e = .returned (.bool (chk Nb xb)) ∧ Below w0.heap.size w0 w') := fun w0 h => refcheck_c Nb ab xb cb w0 (Xb.keep h) Fb
  cases hk : chk Nb xb with
  | false =>
    rw [hk] at HC
    go_enter Tryd.func4, Tryd.ntmps4
    go_wp2_with fail
    refine (HC.out _ (below_alloc w _)).mono ?_
    rintro e w1 ⟨rfl, hb⟩
    have hw := (below_alloc w _).trans (hb.mono (by simp))
    have B0 := (Cel.new w [.int .i64 Nb, .slice ab xb.length cb] 24).kept hb
    have r0 := B0.cell 0 rfl
    have r1 := B0.cell 1 rfl
    clear hb
    go_wp2_with fail
    refine (heads_c _ (by first | exact G.kept hw | exact G.kept (below_alloc w _))).mono ?_
    rintro e w9 ⟨rfl, hb⟩
    replace hw := hw.trans (hb.mono hw.size)
    go_wp2
    go_ret
    exact ⟨rfl, hw⟩
  | true =>
    rw [hk] at HC
    obtain ⟨h0, h1, -, -⟩ := chk_out Nb xb hk
    have H1 : Hid (∀ w0, Below w.heap.size w w0 → Calls Tryd.prog 8 #[.agg #[.int .i64 Nb, .slice ab xb.length cb]] w0 fun e w' => ∃ cs : List Value, e = .returned (.tuple #[.agg cs.toArray, .int .i64 0]) ∧ KI w' cs (kB Nb xb) ∧ Below w0.heap.size w0 w') := fun w0 h => by
      have := build_k Nb ab xb cb w0 hbN (Xb.keep h) Fb Cb hlx (G.kept h)
      rw [show kE Nb xb = 0 from kE_ok Nb xb hk] at this
      exact this
    obtain ⟨ok, okN, okX⟩ := kB_ok Nb xb Fb hk
    obtain ⟨m, rfl⟩ := Int.eq_ofNat_of_zero_le h0
    have hm : m ≤ 3000 := by omega
    have zv := kZ_val m xb Fb hk
    have bl := bat_le m (bitAt xb) (nb m)
    have en : nb m = (m + 14) / 15 := rfl
    have eg : gN m = (max 1 (nb m) + 7) / 8 := rfl
    obtain ⟨n, hn⟩ : ∃ n : Nat, n = (m + 14) / 15 := ⟨_, rfl⟩
    have dn : ((m : Int) + 14) / 15 = (n : Int) := by omega
    have dt : ((m : Int) + 14).tdiv 15 = (n : Int) := by rw [Int.tdiv_eq_ediv_of_nonneg (by omega)]; exact dn
    obtain ⟨q, hq⟩ : ∃ q : Nat, q = (n + 7) / 8 := ⟨_, rfl⟩
    have eq_ : ((n : Int) + 7) / 8 = (q : Int) := by omega
    have et : ((n : Int) + 7).tdiv 8 = (q : Int) := by rw [Int.tdiv_eq_ediv_of_nonneg (by omega)]; exact eq_
    obtain ⟨Z1, hZ1⟩ : ∃ Z, Hid (Z = kZ (kB (m : Int) xb)) := ⟨_, rfl⟩
    rw [← hZ1.out] at zv
    obtain ⟨g8, hg8⟩ : ∃ g8 : Nat, g8 = max 1 q := ⟨_, rfl⟩
    have u1 : Z1 ≤ 17 * (n : Int) + 64 * (g8 : Int) := by omega
    have u2 : 4 * (n : Int) + 64 ≤ Z1 := by omega
    have mx : max 1 (q : Int) = (g8 : Int) := by omega
    have ln_ : n ≤ 201 := by omega
    have lq : q ≤ 26 := by omega
    have lg : g8 ≤ 26 := by omega
    have lz : -9223372036854775808 ≤ Z1 ∧ Z1 ≤ 9223372036854775807 := by omega
    have K9 : Hid (∀ w0 cs, KI w0 cs (kB (m : Int) xb) → Calls Tryd.prog 11 #[.agg cs.toArray] w0 fun e w' => e = .returned (.int .i64 Z1) ∧ Below w0.heap.size w0 w') := fun w0 cs h => by
      have := size_k cs (kB (m : Int) xb) w0 h
      rw [← hZ1.out] at this
      exact this
    clear zv bl en eg hn hq hg8 hZ1 ok okN okX hk
    generalize kB (m : Int) xb = A1 at *
    by_cases hq1 : (1 : Int) < (q : Int)
    · have hq2 : 1 < q := by omega
      have hg : (g8 : Int) = (q : Int) := by omega
      have u3 : Z1 ≤ 17 * (n : Int) + 64 * (q : Int) := by omega
      clear mx hg u1
      go_enter Tryd.func4, Tryd.ntmps4
      go_wp2_with fail
      refine (HC.out _ (below_alloc w _)).mono ?_
      rintro e w1 ⟨rfl, hb⟩
      have hw := (below_alloc w _).trans (hb.mono (by simp))
      have B0 := (Cel.new w [.int .i64 m, .slice ab xb.length cb] 24).kept hb
      have r0 := B0.cell 0 rfl
      have r1 := B0.cell 1 rfl
      clear hb
      go_wp2_with fail
      refine (H1.out _ hw).mono ?_
      rintro e w2 ⟨cs, rfl, hP, hb⟩
      replace hw := hw.trans (hb.mono hw.size)
      replace B0 := B0.kept hb
      clear hb r0 r1
      go_wp2_with (refine store_cel w2.heap.size [.int .i64 0, .int .i64 0, .int .i64 0, .int .i64 0, .slice none 0 0, .int .i64 0, .slice none 0 0, .slice none 0 0, .slice none 0 0] cs rfl rfl (Cel.new w2 [.int .i64 0, .int .i64 0, .int .i64 0, .int .i64 0, .slice none 0 0, .int .i64 0, .slice none 0 0, .slice none 0 0, .slice none 0 0] 31) hP.arg.nine hP.arg.len hP.arg.one ?_)
      intro w3 Bw3 Ow3
      have bw3 : Below w2.heap.size w2 w3 := (below_alloc w2 _).trans (Ow3.below (Nat.le_refl _))
      replace hP := hP.keep bw3
      replace hw := hw.trans (bw3.mono hw.size)
      replace B0 := B0.kept bw3
      clear Ow3 bw3
      have hB := Bw3
      clear Bw3
      have r0 := B0.cell 0 rfl
      have r1 := B0.cell 1 rfl
      generalize w2.heap.size = g at *
      go_wp2_with (refine load_obj g cs (by rfl) rfl hB Tryd.underlying31 hP.arg.len ?_)
      refine (K9.out _ _ hP).mono ?_
      rintro e w4 ⟨rfl, hb⟩
      replace hP := hP.keep hb
      replace hB := hB.kept hb
      replace B0 := B0.kept hb
      replace hw := hw.trans (hb.mono hw.size)
      clear hb r0 r1
      have r0 := B0.cell 0 rfl
      have r1 := B0.cell 1 rfl
      go_wp2_with (refine load_obj g cs (by rfl) rfl hB Tryd.underlying31 hP.arg.len ?_)
      refine (K9.out _ _ hP).mono ?_
      rintro e w5 ⟨rfl, hb⟩
      replace hP := hP.keep hb
      replace hB := hB.kept hb
      replace B0 := B0.kept hb
      replace hw := hw.trans (hb.mono hw.size)
      clear hb r0 r1
      have r0 := B0.cell 0 rfl
      have r1 := B0.cell 1 rfl
      go_wp2_with fail
      refine (heads_c _ (by first | exact G.kept hw | exact G.kept (below_alloc w _))).mono ?_
      rintro e w9 ⟨rfl, hb⟩
      replace hw := hw.trans (hb.mono hw.size)
      go_wp2
      go_ret
      exact ⟨rfl, hw⟩
    · have hq2 : ¬ 1 < q := by omega
      have hq3 : (q : Int) ≤ 1 := by omega
      have hg : (g8 : Int) = 1 := by omega
      have u3 : Z1 ≤ 17 * (n : Int) + 64 := by omega
      clear mx hg u1
      go_enter Tryd.func4, Tryd.ntmps4
      go_wp2_with fail
      refine (HC.out _ (below_alloc w _)).mono ?_
      rintro e w1 ⟨rfl, hb⟩
      have hw := (below_alloc w _).trans (hb.mono (by simp))
      have B0 := (Cel.new w [.int .i64 m, .slice ab xb.length cb] 24).kept hb
      have r0 := B0.cell 0 rfl
      have r1 := B0.cell 1 rfl
      clear hb
      go_wp2_with fail
      refine (H1.out _ hw).mono ?_
      rintro e w2 ⟨cs, rfl, hP, hb⟩
      replace hw := hw.trans (hb.mono hw.size)
      replace B0 := B0.kept hb
      clear hb r0 r1
      go_wp2_with (refine store_cel w2.heap.size [.int .i64 0, .int .i64 0, .int .i64 0, .int .i64 0, .slice none 0 0, .int .i64 0, .slice none 0 0, .slice none 0 0, .slice none 0 0] cs rfl rfl (Cel.new w2 [.int .i64 0, .int .i64 0, .int .i64 0, .int .i64 0, .slice none 0 0, .int .i64 0, .slice none 0 0, .slice none 0 0, .slice none 0 0] 31) hP.arg.nine hP.arg.len hP.arg.one ?_)
      intro w3 Bw3 Ow3
      have bw3 : Below w2.heap.size w2 w3 := (below_alloc w2 _).trans (Ow3.below (Nat.le_refl _))
      replace hP := hP.keep bw3
      replace hw := hw.trans (bw3.mono hw.size)
      replace B0 := B0.kept bw3
      clear Ow3 bw3
      have hB := Bw3
      clear Bw3
      have r0 := B0.cell 0 rfl
      have r1 := B0.cell 1 rfl
      generalize w2.heap.size = g at *
      go_wp2_with (refine load_obj g cs (by rfl) rfl hB Tryd.underlying31 hP.arg.len ?_)
      refine (K9.out _ _ hP).mono ?_
      rintro e w4 ⟨rfl, hb⟩
      replace hP := hP.keep hb
      replace hB := hB.kept hb
      replace B0 := B0.kept hb
      replace hw := hw.trans (hb.mono hw.size)
      clear hb r0 r1
      have r0 := B0.cell 0 rfl
      have r1 := B0.cell 1 rfl
      go_wp2_with (refine load_obj g cs (by rfl) rfl hB Tryd.underlying31 hP.arg.len ?_)
      refine (K9.out _ _ hP).mono ?_
      rintro e w5 ⟨rfl, hb⟩
      replace hP := hP.keep hb
      replace hB := hB.kept hb
      replace B0 := B0.kept hb
      replace hw := hw.trans (hb.mono hw.size)
      clear hb r0 r1
      have r0 := B0.cell 0 rfl
      have r1 := B0.cell 1 rfl
      go_wp2_with fail
      refine (heads_c _ (by first | exact G.kept hw | exact G.kept (below_alloc w _))).mono ?_
      rintro e w9 ⟨rfl, hb⟩
      replace hw := hw.trans (hb.mono hw.size)
      go_wp2
      go_ret
      exact ⟨rfl, hw⟩

theorem door_met (os : Os) (args : Array Value) : laidMetH Tryd.prog [("errors.errorType", Rows.laid_errors_errorType), ("haystack/rrr.ways", Rows.laid_haystack_rrr_ways), ("haystack/rrr.widths", Rows.laid_haystack_rrr_widths)] ((World.doorLaid Tryd.prog 400 os).forCall (fun _ _ => 0) ⟨#[], args, []⟩).memory :=
  laidMetH_of_parts3 (fuel := 8) (laidMet_of_run' 8 (by kernel_rfl) (by kernel_rfl)) (by kernel_rfl) (by kernel_rfl)

theorem lifted (os : Os) (started : os.Started) (H : Type) (enc : TypeId × Value → H) :
    ReturnsInHanded {} Tryd.checked os 4 .any (fun w args => (Rows.rrrSizesSpec.pre enc Tryd.prog Tryd.f4 [] false w args ∧ laidMetH Tryd.prog [("errors.errorType", Rows.laid_errors_errorType), ("haystack/rrr.ways", Rows.laid_haystack_rrr_ways), ("haystack/rrr.widths", Rows.laid_haystack_rrr_widths)] w) ∧ sizedMet enc Tryd.prog Tryd.f4 (OpenSpec.ofChange Rows.rrrSizesSpec) false w args)
      (Rows.rrrSizesSpec.post enc Tryd.prog Tryd.f4 false true false false) := by
  refine returnsInHanded_of_change_and (C := Tryd.checked) (X := fun w _ => laidMetH Tryd.prog [("errors.errorType", Rows.laid_errors_errorType), ("haystack/rrr.ways", Rows.laid_haystack_rrr_ways), ("haystack/rrr.widths", Rows.laid_haystack_rrr_widths)] w) (fun _ _ _ hh h => h.of_heap hh) own started (by kernel_rfl) Tryd.func4
    (ChangeSpec.witness_shaped (enc := enc) (C := Tryd.checked) (os := os) (X := fun w _ => laidMetH Tryd.prog [("errors.errorType", Rows.laid_errors_errorType), ("haystack/rrr.ways", Rows.laid_haystack_rrr_ways), ("haystack/rrr.widths", Rows.laid_haystack_rrr_widths)] w) false (World.doorLaid Tryd.prog 400 os) #[.agg #[.int .i64 0, .slice none 0 0]] 8 rfl (World.shaped_of_RefB (by kernel_rfl) (by kernel_rfl)) (by kernel_rfl) (by kernel_rfl) (by kernel_rfl) (door_met os _)) ?_
  intro W base args ds gs before hval0 hW _ _ hL _
  have hval : ∀ (j : Nat) t v, Tryd.f4.params[j]? = some t → args[j]? = some v → Value.okWide Tryd.prog W .any base t v := hval0
  have hW' := hW
  obtain ⟨p, q, hA0, hV, rfl, hfz, hnd⟩ := hW
  have hA : DataW.TrodAll enc Tryd.prog W 0 (fun _ => true) true Tryd.f4.params.toList args.toList ds p := hA0
  rw [Tryd.params4] at hA hval
  obtain ⟨v0, vs0, d0, ds0, p0, q0, hargs, rfl, rfl, h0, r0⟩ := trodAll_cons hA
  obtain ⟨rfl, rfl, rfl⟩ := trodAll_nil r0
  obtain rfl : args = #[v0] := by cases args; simp_all
  obtain ⟨rfl, rfl⟩ := trodVars_none hV
  have k0 := h0
  have lt0 : ∀ x ∈ p0, x.block < W.heap.size := by obtain ⟨m, hm⟩ := k0; exact DataW.trod_lt m _ _ _ hm
  obtain ⟨Nb, ab, xb, cb, rfl, bb1, bb2, bb3, bb4⟩ := open_bits (hval 0 24 v0 rfl rfl) h0
  clear hA0 hval0
  refine (walk W (gv_of_laid hL) Nb ab xb cb bb1 bb2 bb3 bb4).mono fun e W' ⟨he, bel⟩ => ?_
  subst he
  exact ⟨_, rfl, _, _, _, [], _, [], hW', trodAll_mk1 (shut_bool Tryd.underlying4 _), (trodAll_cons_mk (Below.trod laidOut (by kernel_rfl) (of_decide_eq_true (by kernel_rfl)) k0 bel lt0) trodAll_mk0), rfl, bel.frame _, fun h => by cases h⟩

set_option maxHeartbeats 80000000 in
theorem closed : joinedFacts Tryd.prog 4 Tryd.f4 Rows.rrrSizesSpec Rows.rrrSizesRow = true := by
  unfold joinedFacts
  repeat' (with_reducible apply and_tt)
  all_goals decide +kernel

theorem over : Rows.rrrSizesRow.holds Tryd.pinned (OpenSpec.ofChange Rows.rrrSizesSpec) :=
  OpenClaim.holds_of_wide 4 Tryd.f4 rfl rfl rfl rfl rfl rfl rfl ⟨rfl, rfl, rfl, rfl, rfl⟩ rfl rfl rfl rfl rfl (by kernel_rfl) Tryd.func4 closed
    (of_decide_eq_true (by kernel_rfl)) (by unfold Func.isWrapper; first | (rw [if_pos (by decide +kernel)]; kernel_rfl) | (rw [if_neg (by decide +kernel)]; exact ⟨rfl, rfl⟩))
    (fun os started H enc _ => lifted os started H enc)

theorem proved : Rows.RrrSizesCardSaid :=
  Claim7.holds_tied_plain_at .later [] [.handle, .data, .data] true (true, "38e76869893b3c87cbf43ba33690b1b3f64c983969ad74c81bd1bc6dc1ddd24b") true
    over (fun _ h => by cases h) (by kernel_rfl) (fun _ h => by cases h) rrrSizes_row_tie rfl ⟨rfl, rfl⟩ (by kernel_rfl) rfl
    (fun f fn hf hfn => by
      obtain rfl : f = 4 := Option.some.inj ((show Tryd.prog.funcNamed "haystack/haystacklaw08.RrrSizes" = some 4 by kernel_rfl).symm.trans hf) |>.symm
      obtain rfl : fn = Tryd.f4 := (Option.some.inj (Tryd.func4.symm.trans hfn)).symm
      exact ⟨by kernel_rfl, fun j t ht => by
        rw [Tryd.params4] at ht
        have hm : t ∈ [24] := by simpa using Array.mem_of_getElem? ht
        have hall : ([24].all fun u => !Tryd.prog.wantsStandIn u) = true := by kernel_rfl
        exact (show Tryd.prog.wantsStandIn t = false by simpa using List.all_eq_true.1 hall t hm)⟩)
    (by kernel_rfl)
end Go.Proofs.YtmphbnmcbonmmaaDoor.rrrSizes
namespace Go.Proofs.YtmphbnmcbonmmaaDoor
theorem rrrSizes_holds : Rows.RrrSizesCardSaid := rrrSizes.proved
#print axioms rrrSizes_holds
end Go.Proofs.YtmphbnmcbonmmaaDoor
