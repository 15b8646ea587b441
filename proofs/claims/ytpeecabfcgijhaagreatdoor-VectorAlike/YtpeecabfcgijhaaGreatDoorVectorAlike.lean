/-
  VectorAlike: rows of two kinds of the same bits answer the same.
-/
import Derived.Test.YtpeecabfcgijhaaGreatDoorM33
import Derived.Test.YtpeecabfcgijhaaGreatDoorM02
import Derived.Test.YtpeecabfcgijhaaGreatDoorCards
import Derived.Test.YtpeecabfcgijhaaGreatDoorTie
import Derived.ChangeOld
import Derived.LaidMore
import Derived.SevenTiedAt
namespace Go.Proofs.YtpeecabfcgijhaaGreatDoor.vectorAlike
open Go.ChangeShapes Go.WideShapes Go.ChangeAt Go.RowKit Num Bit Bn
set_option linter.unusedVariables false
set_option linter.unusedSimpArgs false
set_option maxRecDepth 100000

theorem i64_half {i : Int} (h : -9223372036854775808 ≤ i ∧ i ≤ 9223372036854775807) : I64 (i.tdiv 2) := by
 unfold I64
 rcases Int.le_total 0 i with c | c
 ·rw [Int.tdiv_eq_ediv_of_nonneg c]; omega
 ·have e : i.tdiv 2 = -((-i).tdiv 2) := by rw [Int.neg_tdiv, Int.neg_neg]
  rw [e, Int.tdiv_eq_ediv_of_nonneg (by omega)]; omega
theorem i64_half2 {i : Int} (h : -9223372036854775808 ≤ i ∧ i ≤ 9223372036854775807) : I64 (IntKind.i64.wrap (i.tdiv 2)) := by
 have := i64_half h
 unfold I64 at this ⊢
 rw [IntKind.wrap_i64]
 omega
set_option maxHeartbeats 8000000 in
theorem walk (w : World) (G : GV w) (ka : Int) (hka : -9223372036854775808 ≤ ka ∧ ka ≤ 9223372036854775807) (kc : Int) (hkc : -9223372036854775808 ≤ kc ∧ kc ≤ 9223372036854775807) (Nb : Int) (ab : Option Addr) (xb : List Nat) (cb : Nat) (hbN : -9223372036854775808 ≤ Nb ∧ Nb ≤ 9223372036854775807) (Xb : Wd w ab xb) (Fb : Fit xb) (Cb : xb.length ≤ cb) (i : Int) (hi : -9223372036854775808 ≤ i ∧ i ≤ 9223372036854775807) :
  Calls Tryz.prog 3 #[.int .i64 ka, .int .i64 kc, .agg #[.int .i64 Nb, .slice ab xb.length cb], .int .i64 i] w fun e w' => e = .returned (.bool true) ∧ Below w.heap.size w w' := by
 by_cases q1 : 3000 < Nb
 ·go_enter Tryz.func3, Tryz.ntmps3
  go_wp2_with fail
  refine (heads_c _ (by first | exact G.kept hw | exact G.kept hS.2.2.2.2 | exact G.kept hS.2.2 | exact G.kept (below_alloc w _))).mono ?_
  rintro e w9 ⟨rfl, hb⟩
  go_wp2
  go_ret
  exact ⟨rfl, (below_alloc w _).trans (hb.mono (by simp))⟩
 by_cases q2 : (3000 : Int) < (xb.length : Int)
 ·go_enter Tryz.func3, Tryz.ntmps3
  go_wp2_with fail
  refine (heads_c _ (by first | exact G.kept hw | exact G.kept hS.2.2.2.2 | exact G.kept hS.2.2 | exact G.kept (below_alloc w _))).mono ?_
  rintro e w9 ⟨rfl, hb⟩
  go_wp2
  go_ret
  exact ⟨rfl, (below_alloc w _).trans (hb.mono (by simp))⟩
 have hlx : xb.length ≤ 1048576 := by omega
 have HC : Hid (∀ w0, Below w.heap.size w w0 → Calls Tryz.prog 7 #[.agg #[.int .i64 Nb, .slice ab xb.length cb]] w0 fun e w' => e = .returned (.bool (chk Nb xb)) ∧ Below w0.heap.size w0 w') := fun w0 h => refcheck_c Nb ab xb cb w0 (Xb.keep h) Fb
 cases hk : chk Nb xb with
 | false =>
  rw [hk] at HC
  go_enter Tryz.func3, Tryz.ntmps3
  go_wp2_with fail
  refine (HC.out _ (below_alloc w _)).mono ?_
  rintro e w1 ⟨rfl, hb⟩
  have hw := (below_alloc w _).trans (hb.mono (by simp))
  have B0 := (Cel.new w [.int .i64 Nb, .slice ab xb.length cb] 24).kept hb
  have r0 := B0.cell 0 rfl
  have r1 := B0.cell 1 rfl
  clear hb
  go_wp2_with fail
  refine (heads_c _ (by first | exact G.kept hw | exact G.kept hS.2.2.2.2 | exact G.kept hS.2.2 | exact G.kept (below_alloc w _))).mono ?_
  rintro e w9 ⟨rfl, hb⟩
  replace hw := hw.trans (hb.mono hw.size)
  go_wp2
  go_ret
  exact ⟨rfl, hw⟩
 | true =>
  rw [hk] at HC
  obtain ⟨h0, h1, -, -⟩ := chk_out Nb xb hk
  by_cases gka1 : ka < 1
  ·go_enter Tryz.func3, Tryz.ntmps3
   go_wp2_with fail
   refine (HC.out _ (below_alloc w _)).mono ?_
   rintro e w1 ⟨rfl, hb⟩
   have hw := (below_alloc w _).trans (hb.mono (by simp))
   have B0 := (Cel.new w [.int .i64 Nb, .slice ab xb.length cb] 24).kept hb
   have r0 := B0.cell 0 rfl
   have r1 := B0.cell 1 rfl
   clear hb
   go_wp2_with fail
   refine (heads_c _ (by first | exact G.kept hw | exact G.kept hS.2.2.2.2 | exact G.kept hS.2.2 | exact G.kept (below_alloc w _))).mono ?_
   rintro e w9 ⟨rfl, hb⟩
   replace hw := hw.trans (hb.mono hw.size)
   go_wp2
   go_ret
   exact ⟨rfl, hw⟩
  by_cases gka3 : 3 < ka
  ·go_enter Tryz.func3, Tryz.ntmps3
   go_wp2_with fail
   refine (HC.out _ (below_alloc w _)).mono ?_
   rintro e w1 ⟨rfl, hb⟩
   have hw := (below_alloc w _).trans (hb.mono (by simp))
   have B0 := (Cel.new w [.int .i64 Nb, .slice ab xb.length cb] 24).kept hb
   have r0 := B0.cell 0 rfl
   have r1 := B0.cell 1 rfl
   clear hb
   go_wp2_with fail
   refine (heads_c _ (by first | exact G.kept hw | exact G.kept hS.2.2.2.2 | exact G.kept hS.2.2 | exact G.kept (below_alloc w _))).mono ?_
   rintro e w9 ⟨rfl, hb⟩
   replace hw := hw.trans (hb.mono hw.size)
   go_wp2
   go_ret
   exact ⟨rfl, hw⟩
  have a1 : 1 ≤ ka := by omega
  have a3 : ka ≤ 3 := by omega
  by_cases gkc1 : kc < 1
  ·go_enter Tryz.func3, Tryz.ntmps3
   go_wp2_with fail
   refine (HC.out _ (below_alloc w _)).mono ?_
   rintro e w1 ⟨rfl, hb⟩
   have hw := (below_alloc w _).trans (hb.mono (by simp))
   have B0 := (Cel.new w [.int .i64 Nb, .slice ab xb.length cb] 24).kept hb
   have r0 := B0.cell 0 rfl
   have r1 := B0.cell 1 rfl
   clear hb
   go_wp2_with fail
   refine (heads_c _ (by first | exact G.kept hw | exact G.kept hS.2.2.2.2 | exact G.kept hS.2.2 | exact G.kept (below_alloc w _))).mono ?_
   rintro e w9 ⟨rfl, hb⟩
   replace hw := hw.trans (hb.mono hw.size)
   go_wp2
   go_ret
   exact ⟨rfl, hw⟩
  by_cases gkc3 : 3 < kc
  ·go_enter Tryz.func3, Tryz.ntmps3
   go_wp2_with fail
   refine (HC.out _ (below_alloc w _)).mono ?_
   rintro e w1 ⟨rfl, hb⟩
   have hw := (below_alloc w _).trans (hb.mono (by simp))
   have B0 := (Cel.new w [.int .i64 Nb, .slice ab xb.length cb] 24).kept hb
   have r0 := B0.cell 0 rfl
   have r1 := B0.cell 1 rfl
   clear hb
   go_wp2_with fail
   refine (heads_c _ (by first | exact G.kept hw | exact G.kept hS.2.2.2.2 | exact G.kept hS.2.2 | exact G.kept (below_alloc w _))).mono ?_
   rintro e w9 ⟨rfl, hb⟩
   replace hw := hw.trans (hb.mono hw.size)
   go_wp2
   go_ret
   exact ⟨rfl, hw⟩
  have c1 : 1 ≤ kc := by omega
  have c3 : kc ≤ 3 := by omega
  have H1 : Hid (∀ w0, Below w.heap.size w w0 → Calls Tryz.prog 9 #[.int .i64 ka, .agg #[.int .i64 Nb, .slice ab xb.length cb]] w0 fun e w' => ∃ cs : List Value, e = .returned (.tuple #[.agg cs.toArray, .int .i64 0]) ∧ KI w' cs (kB ka Nb xb) ∧ Below w0.heap.size w0 w') := fun w0 h => by
   have := build_k ka Nb ab xb cb w0 hka hbN (Xb.keep h) Fb Cb ⟨by omega, hlx⟩ (G.kept h)
   rw [show kE ka Nb xb = 0 from kE_ok ka Nb xb a1 a3 hk] at this
   exact this
  have H2 : Hid (∀ w0, Below w.heap.size w w0 → Calls Tryz.prog 9 #[.int .i64 kc, .agg #[.int .i64 Nb, .slice ab xb.length cb]] w0 fun e w' => ∃ cs : List Value, e = .returned (.tuple #[.agg cs.toArray, .int .i64 0]) ∧ KI w' cs (kB kc Nb xb) ∧ Below w0.heap.size w0 w') := fun w0 h => by
   have := build_k kc Nb ab xb cb w0 hkc hbN (Xb.keep h) Fb Cb ⟨by omega, hlx⟩ (G.kept h)
   rw [show kE kc Nb xb = 0 from kE_ok kc Nb xb c1 c3 hk] at this
   exact this
  have Ax : Hid (∀ w0 cs, KI w0 cs (kB ka Nb xb) → Calls Tryz.prog 10 #[.agg cs.toArray, .int .i64 i] w0 fun e w' => e = .returned (.tuple #[.bool (gaB true Nb xb i), .int .i64 (gaE true Nb xb i)]) ∧ Below w0.heap.size w0 w') := fun w0 cs h => by
   have := access_k cs (kB ka Nb xb) i w0 h hi
   obtain ⟨ok, okN, okX⟩ := kB_ok ka Nb xb a1 a3 Fb hk (by omega)
   rw [ok, okN, okX] at this
   exact this
  have Ay : Hid (∀ w0 cs, KI w0 cs (kB kc Nb xb) → Calls Tryz.prog 10 #[.agg cs.toArray, .int .i64 i] w0 fun e w' => e = .returned (.tuple #[.bool (gaB true Nb xb i), .int .i64 (gaE true Nb xb i)]) ∧ Below w0.heap.size w0 w') := fun w0 cs h => by
   have := access_k cs (kB kc Nb xb) i w0 h hi
   obtain ⟨ok, okN, okX⟩ := kB_ok kc Nb xb c1 c3 Fb hk (by omega)
   rw [ok, okN, okX] at this
   exact this
  have Rx : Hid (∀ w0 cs bit, KI w0 cs (kB ka Nb xb) → Calls Tryz.prog 11 #[.agg cs.toArray, .bool bit, .int .i64 i] w0 fun e w' => e = .returned (.tuple #[.int .i64 (grN true Nb xb bit i), .int .i64 (grE true Nb i)]) ∧ Below w0.heap.size w0 w') := fun w0 cs bit h => by
   have := rank_k cs (kB ka Nb xb) bit i w0 h hi
   obtain ⟨ok, okN, okX⟩ := kB_ok ka Nb xb a1 a3 Fb hk (by omega)
   rw [ok, okN, okX] at this
   exact this
  have Ry : Hid (∀ w0 cs bit, KI w0 cs (kB kc Nb xb) → Calls Tryz.prog 11 #[.agg cs.toArray, .bool bit, .int .i64 i] w0 fun e w' => e = .returned (.tuple #[.int .i64 (grN true Nb xb bit i), .int .i64 (grE true Nb i)]) ∧ Below w0.heap.size w0 w') := fun w0 cs bit h => by
   have := rank_k cs (kB kc Nb xb) bit i w0 h hi
   obtain ⟨ok, okN, okX⟩ := kB_ok kc Nb xb c1 c3 Fb hk (by omega)
   rw [ok, okN, okX] at this
   exact this
  have Sx : Hid (∀ w0 cs bit (k : Int), KI w0 cs (kB ka Nb xb) → I64 k → Calls Tryz.prog 12 #[.agg cs.toArray, .bool bit, .int .i64 k] w0 fun e w' => e = .returned (.tuple #[.int .i64 (gsX true Nb xb bit k), .int .i64 (gsE true Nb xb bit k)]) ∧ Below w0.heap.size w0 w') := fun w0 cs bit k h hk9 => by
   have := select_k cs (kB ka Nb xb) bit k w0 h hk9
   obtain ⟨ok, okN, okX⟩ := kB_ok ka Nb xb a1 a3 Fb hk (by omega)
   rw [ok, okN, okX] at this
   exact this
  have Sy : Hid (∀ w0 cs bit (k : Int), KI w0 cs (kB kc Nb xb) → I64 k → Calls Tryz.prog 12 #[.agg cs.toArray, .bool bit, .int .i64 k] w0 fun e w' => e = .returned (.tuple #[.int .i64 (gsX true Nb xb bit k), .int .i64 (gsE true Nb xb bit k)]) ∧ Below w0.heap.size w0 w') := fun w0 cs bit k h hk9 => by
   have := select_k cs (kB kc Nb xb) bit k w0 h hk9
   obtain ⟨ok, okN, okX⟩ := kB_ok kc Nb xb c1 c3 Fb hk (by omega)
   rw [ok, okN, okX] at this
   exact this
  clear hk
  generalize kB ka Nb xb = A1 at *
  generalize kB kc Nb xb = A2 at *
  go_enter Tryz.func3, Tryz.ntmps3
  go_wp2_with fail
  refine (HC.out _ (below_alloc w _)).mono ?_
  rintro e w1 ⟨rfl, hb⟩
  have hw := (below_alloc w _).trans (hb.mono (by simp))
  have B0 := (Cel.new w [.int .i64 Nb, .slice ab xb.length cb] 24).kept hb
  have r0 := B0.cell 0 rfl
  have r1 := B0.cell 1 rfl
  clear hb
  go_wp2_with fail
  refine (H1.out _ hw).mono ?_
  rintro e w2 ⟨cs, rfl, hP, hb⟩
  replace hw := hw.trans (hb.mono hw.size)
  replace B0 := B0.kept hb
  clear hb r0 r1
  go_wp2_with (refine store_cel w2.heap.size [.int .i64 0, .int .i64 0, .slice none 0 0, .slice none 0 0, .slice none 0 0, .int .i64 0, .int .i64 0, .int .i64 0, .int .i64 0, .slice none 0 0, .int .i64 0, .slice none 0 0, .slice none 0 0, .slice none 0 0, .int .i64 0, .int .i64 0, .int .i64 0, .int .i64 0, .int .i64 0, .slice none 0 0, .int .i64 0, .slice none 0 0] cs rfl rfl (Cel.new w2 [.int .i64 0, .int .i64 0, .slice none 0 0, .slice none 0 0, .slice none 0 0, .int .i64 0, .int .i64 0, .int .i64 0, .int .i64 0, .slice none 0 0, .int .i64 0, .slice none 0 0, .slice none 0 0, .slice none 0 0, .int .i64 0, .int .i64 0, .int .i64 0, .int .i64 0, .int .i64 0, .slice none 0 0, .int .i64 0, .slice none 0 0] 37) hP.arg.nine hP.arg.len hP.arg.one ?_)
  intro w3 Bw3 Ow3
  have bw3 : Below w2.heap.size w2 w3 := (below_alloc w2 _).trans (Ow3.below (Nat.le_refl _))
  replace hP := hP.keep bw3
  replace hw := hw.trans (bw3.mono hw.size)
  replace B0 := B0.kept bw3
  clear Ow3 bw3
  generalize w2.heap.size = g at *
  have r0 := B0.cell 0 rfl
  have r1 := B0.cell 1 rfl
  go_wp2_with fail
  refine (H2.out _ hw).mono ?_
  rintro e w4 ⟨ds, rfl, hQ, hb⟩
  replace hw := hw.trans (hb.mono hw.size)
  replace hP := hP.keep hb
  replace Bw3 := Bw3.kept hb
  clear hb r0 r1 B0 H1 H2
  go_wp2_with (refine store_cel w4.heap.size [.int .i64 0, .int .i64 0, .slice none 0 0, .slice none 0 0, .slice none 0 0, .int .i64 0, .int .i64 0, .int .i64 0, .int .i64 0, .slice none 0 0, .int .i64 0, .slice none 0 0, .slice none 0 0, .slice none 0 0, .int .i64 0, .int .i64 0, .int .i64 0, .int .i64 0, .int .i64 0, .slice none 0 0, .int .i64 0, .slice none 0 0] ds rfl rfl (Cel.new w4 [.int .i64 0, .int .i64 0, .slice none 0 0, .slice none 0 0, .slice none 0 0, .int .i64 0, .int .i64 0, .int .i64 0, .int .i64 0, .slice none 0 0, .int .i64 0, .slice none 0 0, .slice none 0 0, .slice none 0 0, .int .i64 0, .int .i64 0, .int .i64 0, .int .i64 0, .int .i64 0, .slice none 0 0, .int .i64 0, .slice none 0 0] 37) hQ.arg.nine hQ.arg.len hQ.arg.one ?_)
  intro w5 Bw5 Ow5
  have bw5 : Below w4.heap.size w4 w5 := (below_alloc w4 _).trans (Ow5.below (Nat.le_refl _))
  replace hQ := hQ.keep bw5
  replace hw := hw.trans (bw5.mono hw.size)
  replace hP := hP.keep bw5
  replace Bw3 := Bw3.kept bw5
  clear Ow5 bw5
  generalize w4.heap.size = g2 at *
  have L1 := Hid.mk8 hP.arg.len
  have L2 := Hid.mk8 hQ.arg.len
  go_wp2_with (refine load_obj g cs (by rfl) rfl Bw3 Tryz.underlying37 L1.out ?_)
  refine (Ax.out _ _ hP).mono ?_
  rintro e v1 ⟨rfl, hb⟩
  replace hP := hP.keep hb
  replace hQ := hQ.keep hb
  replace Bw3 := Bw3.kept hb
  replace Bw5 := Bw5.kept hb
  replace hw := hw.trans (hb.mono hw.size)
  clear hb
  go_wp2_with (refine load_obj g2 ds (by rfl) rfl Bw5 Tryz.underlying37 L2.out ?_)
  refine (Ay.out _ _ hQ).mono ?_
  rintro e v2 ⟨rfl, hb⟩
  replace hP := hP.keep hb
  replace hQ := hQ.keep hb
  replace Bw3 := Bw3.kept hb
  replace Bw5 := Bw5.kept hb
  replace hw := hw.trans (hb.mono hw.size)
  clear hb
  generalize gaB true Nb xb i = P0 at *
  generalize gaE true Nb xb i = P1 at *
  go_wp2_with (refine load_obj g cs (by rfl) rfl Bw3 Tryz.underlying37 L1.out ?_)
  refine (Rx.out _ _ _ hP).mono ?_
  rintro e v3 ⟨rfl, hb⟩
  replace hP := hP.keep hb
  replace hQ := hQ.keep hb
  replace Bw3 := Bw3.kept hb
  replace Bw5 := Bw5.kept hb
  replace hw := hw.trans (hb.mono hw.size)
  clear hb
  go_wp2_with (refine load_obj g2 ds (by rfl) rfl Bw5 Tryz.underlying37 L2.out ?_)
  refine (Ry.out _ _ _ hQ).mono ?_
  rintro e v4 ⟨rfl, hb⟩
  replace hP := hP.keep hb
  replace hQ := hQ.keep hb
  replace Bw3 := Bw3.kept hb
  replace Bw5 := Bw5.kept hb
  replace hw := hw.trans (hb.mono hw.size)
  clear hb
  go_wp2_with (refine load_obj g cs (by rfl) rfl Bw3 Tryz.underlying37 L1.out ?_)
  refine (Sx.out _ _ _ _ hP (by first | exact i64_half hi | exact i64_half2 hi)).mono ?_
  rintro e v5 ⟨rfl, hb⟩
  replace hP := hP.keep hb
  replace hQ := hQ.keep hb
  replace Bw3 := Bw3.kept hb
  replace Bw5 := Bw5.kept hb
  replace hw := hw.trans (hb.mono hw.size)
  clear hb
  go_wp2_with (refine load_obj g2 ds (by rfl) rfl Bw5 Tryz.underlying37 L2.out ?_)
  refine (Sy.out _ _ _ _ hQ (by first | exact i64_half hi | exact i64_half2 hi)).mono ?_
  rintro e v6 ⟨rfl, hb⟩
  replace hP := hP.keep hb
  replace hQ := hQ.keep hb
  replace Bw3 := Bw3.kept hb
  replace Bw5 := Bw5.kept hb
  replace hw := hw.trans (hb.mono hw.size)
  clear hb
  clear Bw3 Bw5 hP hQ L1 L2
  go_wp2_with fail
  refine (heads_c _ (by first | exact G.kept hw | exact G.kept hS.2.2.2.2 | exact G.kept hS.2.2 | exact G.kept (below_alloc w _))).mono ?_
  rintro e w9 ⟨rfl, hb⟩
  replace hw := hw.trans (hb.mono hw.size)
  go_wp2
  go_ret
  exact ⟨rfl, hw⟩
theorem door_met (os : Os) (args : Array Value) : laidMetH Tryz.prog [("errors.errorType", Rows.laid_errors_errorType), ("haystack/rrr.ways", Rows.laid_haystack_rrr_ways), ("haystack/rrr.widths", Rows.laid_haystack_rrr_widths)] ((World.doorLaid Tryz.prog 400 os).forCall (fun _ _ => 0) ⟨#[], args, []⟩).memory :=
 laidMetH_of_parts3 (fuel := 8) (laidMet_of_run' 8 (by kernel_rfl) (by kernel_rfl)) (by kernel_rfl) (by kernel_rfl)
theorem lifted (os : Os) (started : os.Started) (H : Type) (enc : TypeId × Value → H) :
  ReturnsInHanded {} Tryz.checked os 3 .any (fun w args => (Rows.vectorAlikeSpec.pre enc Tryz.prog Tryz.f3 [] false w args ∧ laidMetH Tryz.prog [("errors.errorType", Rows.laid_errors_errorType), ("haystack/rrr.ways", Rows.laid_haystack_rrr_ways), ("haystack/rrr.widths", Rows.laid_haystack_rrr_widths)] w) ∧ sizedMet enc Tryz.prog Tryz.f3 (OpenSpec.ofChange Rows.vectorAlikeSpec) false w args)
   (Rows.vectorAlikeSpec.post enc Tryz.prog Tryz.f3 false true false false) := by
 refine returnsInHanded_of_change_and (C := Tryz.checked) (X := fun w _ => laidMetH Tryz.prog [("errors.errorType", Rows.laid_errors_errorType), ("haystack/rrr.ways", Rows.laid_haystack_rrr_ways), ("haystack/rrr.widths", Rows.laid_haystack_rrr_widths)] w) (fun _ _ _ hh h => h.of_heap hh) own started (by kernel_rfl) Tryz.func3
  (ChangeSpec.witness_shaped (enc := enc) (C := Tryz.checked) (os := os) (X := fun w _ => laidMetH Tryz.prog [("errors.errorType", Rows.laid_errors_errorType), ("haystack/rrr.ways", Rows.laid_haystack_rrr_ways), ("haystack/rrr.widths", Rows.laid_haystack_rrr_widths)] w) false (World.doorLaid Tryz.prog 400 os) #[.int .i64 0, .int .i64 0, .agg #[.int .i64 0, .slice none 0 0], .int .i64 0] 8 rfl (World.shaped_of_RefB (by kernel_rfl) (by kernel_rfl)) (by kernel_rfl) (by kernel_rfl) (by kernel_rfl) (door_met os _)) ?_
 intro W base args ds gs before hval0 hW _ _ hL _
 have hval : ∀ (j : Nat) t v, Tryz.f3.params[j]? = some t → args[j]? = some v → Value.okWide Tryz.prog W .any base t v := hval0
 have hW' := hW
 obtain ⟨p, q, hA0, hV, rfl, hfz, hnd⟩ := hW
 have hA : DataW.TrodAll enc Tryz.prog W 0 (fun _ => true) true Tryz.f3.params.toList args.toList ds p := hA0
 rw [Tryz.params3] at hA hval
 obtain ⟨v0, vs0, d0, ds0, p0, q0, hargs, rfl, rfl, h0, r0⟩ := trodAll_cons hA
 obtain ⟨v1, vs1, d1, ds1, p1, q1, rfl, rfl, rfl, h1, r1⟩ := trodAll_cons r0
 obtain ⟨v2, vs2, d2, ds2, p2, q2, rfl, rfl, rfl, h2, r2⟩ := trodAll_cons r1
 obtain ⟨v3, vs3, d3, ds3, p3, q3, rfl, rfl, rfl, h3, r3⟩ := trodAll_cons r2
 obtain ⟨rfl, rfl, rfl⟩ := trodAll_nil r3
 obtain rfl : args = #[v0, v1, v2, v3] := by cases args; simp_all
 obtain ⟨rfl, rfl⟩ := trodVars_none hV
 obtain ⟨ka, rfl, rfl, rfl, w0⟩ := open_int Tryz.underlying3 (hval 0 3 v0 rfl rfl) h0
 obtain ⟨kc, rfl, rfl, rfl, w1⟩ := open_int Tryz.underlying3 (hval 1 3 v1 rfl rfl) h1
 have k2 := h2
 have lt2 : ∀ x ∈ p2, x.block < W.heap.size := by obtain ⟨m, hm⟩ := k2; exact DataW.trod_lt m _ _ _ hm
 obtain ⟨Nb, ab, xb, cb, rfl, bb1, bb2, bb3, bb4⟩ := open_bits (hval 2 24 v2 rfl rfl) h2
 obtain ⟨i, rfl, rfl, rfl, w3⟩ := open_int Tryz.underlying3 (hval 3 3 v3 rfl rfl) h3
 clear hA0 hval0
 refine (walk W (gv_of_laid hL) ka (i64_wf _ w0) kc (i64_wf _ w1) Nb ab xb cb bb1 bb2 bb3 bb4 i (i64_wf _ w3)).mono fun e W' ⟨he, bel⟩ => ?_
 subst he
 exact ⟨_, rfl, _, _, _, [], _, [], hW', trodAll_mk1 (shut_bool Tryz.underlying4 _), (trodAll_cons_mk (shut_int Tryz.underlying3 w0) (trodAll_cons_mk (shut_int Tryz.underlying3 w1) (trodAll_cons_mk (Below.trod laidOut (by kernel_rfl) (of_decide_eq_true (by kernel_rfl)) k2 bel lt2) (trodAll_cons_mk (shut_int Tryz.underlying3 w3) trodAll_mk0)))), rfl, bel.frame _, fun h => by cases h⟩
set_option maxHeartbeats 80000000 in
theorem closed : joinedFacts Tryz.prog 3 Tryz.f3 Rows.vectorAlikeSpec Rows.vectorAlikeRow = true := by
 unfold joinedFacts
 repeat' (with_reducible apply and_tt)
 all_goals decide +kernel
theorem over : Rows.vectorAlikeRow.holds Tryz.pinned (OpenSpec.ofChange Rows.vectorAlikeSpec) :=
 OpenClaim.holds_of_wide 3 Tryz.f3 rfl rfl rfl rfl rfl rfl rfl ⟨rfl, rfl, rfl, rfl, rfl⟩ rfl rfl rfl rfl rfl (by kernel_rfl) Tryz.func3 closed
  (of_decide_eq_true (by kernel_rfl)) (by unfold Func.isWrapper; first | (rw [if_pos (by decide +kernel)]; kernel_rfl) | (rw [if_neg (by decide +kernel)]; exact ⟨rfl, rfl⟩))
  (fun os started H enc _ => lifted os started H enc)
theorem proved : Rows.VectorAlikeCardSaid :=
 Claim7.holds_tied_plain_at .later [] [.handle, .data, .data] true (true, "2bd0379edccf0840bff9a4e248c1b4fe7872517fd67d6c1943d395fa38030269") true
  over (fun _ h => by cases h) (by kernel_rfl) (fun _ h => by cases h) vectorAlike_row_tie rfl ⟨rfl, rfl⟩ (by kernel_rfl) rfl
  (fun f fn hf hfn => by
   obtain rfl : f = 3 := Option.some.inj ((show Tryz.prog.funcNamed "haystack/haystacklaw10.VectorAlike" = some 3 by kernel_rfl).symm.trans hf) |>.symm
   obtain rfl : fn = Tryz.f3 := (Option.some.inj (Tryz.func3.symm.trans hfn)).symm
   exact ⟨by kernel_rfl, fun j t ht => by
    rw [Tryz.params3] at ht
    have hm : t ∈ [3, 3, 24, 3] := by simpa using Array.mem_of_getElem? ht
    have hall : ([3, 3, 24, 3].all fun u => !Tryz.prog.wantsStandIn u) = true := by kernel_rfl
    exact (show Tryz.prog.wantsStandIn t = false by simpa using List.all_eq_true.1 hall t hm)⟩)
  (by kernel_rfl)
end Go.Proofs.YtpeecabfcgijhaaGreatDoor.vectorAlike
namespace Go.Proofs.YtpeecabfcgijhaaGreatDoor
theorem vectorAlike_holds : Rows.VectorAlikeCardSaid := vectorAlike.proved
#print axioms vectorAlike_holds
end Go.Proofs.YtpeecabfcgijhaaGreatDoor
