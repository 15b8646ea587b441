/-
  VectorBack: what is built is the row, and counts and places go there and back.
-/
import Derived.Test.YtpeecabfcgijhaaGreatDoorM33
import Derived.Test.YtpeecabfcgijhaaGreatDoorM02
import Derived.Test.YtpeecabfcgijhaaGreatDoorCards
import Derived.Test.YtpeecabfcgijhaaGreatDoorTie
import Derived.ChangeOld
import Derived.LaidMore
import Derived.SevenTiedAt
namespace Go.Proofs.YtpeecabfcgijhaaGreatDoor.vectorBack
open Go.ChangeShapes Go.WideShapes Go.ChangeAt Go.RowKit Num Bit
set_option linter.unusedVariables false
set_option linter.unusedSimpArgs false
set_option maxRecDepth 100000

set_option maxHeartbeats 8000000 in
theorem walk (w : World) (G : GV w) (kd : Int) (hkd : -9223372036854775808 ≤ kd ∧ kd ≤ 9223372036854775807) (Nb : Int) (ab : Option Addr) (xb : List Nat) (cb : Nat) (hbN : -9223372036854775808 ≤ Nb ∧ Nb ≤ 9223372036854775807) (Xb : Wd w ab xb) (Fb : Fit xb) (Cb : xb.length ≤ cb) (bit : Bool) (k : Int) (hk_ : -9223372036854775808 ≤ k ∧ k ≤ 9223372036854775807) :
  Calls Tryz.prog 6 #[.int .i64 kd, .agg #[.int .i64 Nb, .slice ab xb.length cb], .bool bit, .int .i64 k] w fun e w' => e = .returned (.bool true) ∧ Below w.heap.size w w' := by
 by_cases q1 : 3000 < Nb
 ·go_enter Tryz.func6, Tryz.ntmps6
  go_wp2_with fail
  refine (heads_c _ (by first | exact G.kept hw | exact G.kept hS.2.2.2.2 | exact G.kept hS.2.2 | exact G.kept (below_alloc w _))).mono ?_
  rintro e w9 ⟨rfl, hb⟩
  go_wp2
  go_ret
  exact ⟨rfl, (below_alloc w _).trans (hb.mono (by simp))⟩
 by_cases q2 : (3000 : Int) < (xb.length : Int)
 ·go_enter Tryz.func6, Tryz.ntmps6
  go_wp2_with fail
  refine (heads_c _ (by first | exact G.kept hw | exact G.kept hS.2.2.2.2 | exact G.kept hS.2.2 | exact G.kept (below_alloc w _))).mono ?_
  rintro e w9 ⟨rfl, hb⟩
  go_wp2
  go_ret
  exact ⟨rfl, (below_alloc w _).trans (hb.mono (by simp))⟩
 have hlx : xb.length ≤ 1048576 := by omega
 have HC : Hid (∀ w0, Below w.heap.size w w0 → Calls Tryz.prog 7 #[.agg #[.int .i64 Nb, .slice ab xb.length cb]] w0 fun e w' => e = .returned (.bool (chk Nb xb)) ∧ Below w0.heap.size w0 w') := fun w0 h => refcheck_c Nb ab xb cb w0 (Xb.keep h) Fb
 cases hk : chk Nb xb with
 | false =>
  rw [hk] at HC
  go_enter Tryz.func6, Tryz.ntmps6
  go_wp2_with fail
  refine (HC.out _ (below_alloc w _)).mono ?_
  rintro e w1 ⟨rfl, hb⟩
  have hw := (below_alloc w _).trans (hb.mono (by simp))
  have B0 := (Cel.new w [.int .i64 Nb, .slice ab xb.length cb] 24).kept hb
  have r0 := B0.cell 0 rfl
  have r1 := B0.cell 1 rfl
  clear hb
  go_wp2_with fail
  refine (heads_c _ (by first | exact G.kept hw | exact G.kept hS.2.2.2.2 | exact G.kept hS.2.2 | exact G.kept (below_alloc w _))).mono ?_
  rintro e w9 ⟨rfl, hb⟩
  replace hw := hw.trans (hb.mono hw.size)
  go_wp2
  go_ret
  exact ⟨rfl, hw⟩
 | true =>
  rw [hk] at HC
  obtain ⟨h0, h1, -, -⟩ := chk_out Nb xb hk
  by_cases gkd1 : kd < 1
  ·go_enter Tryz.func6, Tryz.ntmps6
   go_wp2_with fail
   refine (HC.out _ (below_alloc w _)).mono ?_
   rintro e w1 ⟨rfl, hb⟩
   have hw := (below_alloc w _).trans (hb.mono (by simp))
   have B0 := (Cel.new w [.int .i64 Nb, .slice ab xb.length cb] 24).kept hb
   have r0 := B0.cell 0 rfl
   have r1 := B0.cell 1 rfl
   clear hb
   go_wp2_with fail
   refine (heads_c _ (by first | exact G.kept hw | exact G.kept hS.2.2.2.2 | exact G.kept hS.2.2 | exact G.kept (below_alloc w _))).mono ?_
   rintro e w9 ⟨rfl, hb⟩
   replace hw := hw.trans (hb.mono hw.size)
   go_wp2
   go_ret
   exact ⟨rfl, hw⟩
  by_cases gkd3 : 3 < kd
  ·go_enter Tryz.func6, Tryz.ntmps6
   go_wp2_with fail
   refine (HC.out _ (below_alloc w _)).mono ?_
   rintro e w1 ⟨rfl, hb⟩
   have hw := (below_alloc w _).trans (hb.mono (by simp))
   have B0 := (Cel.new w [.int .i64 Nb, .slice ab xb.length cb] 24).kept hb
   have r0 := B0.cell 0 rfl
   have r1 := B0.cell 1 rfl
   clear hb
   go_wp2_with fail
   refine (heads_c _ (by first | exact G.kept hw | exact G.kept hS.2.2.2.2 | exact G.kept hS.2.2 | exact G.kept (below_alloc w _))).mono ?_
   rintro e w9 ⟨rfl, hb⟩
   replace hw := hw.trans (hb.mono hw.size)
   go_wp2
   go_ret
   exact ⟨rfl, hw⟩
  have k1 : 1 ≤ kd := by omega
  have k3 : kd ≤ 3 := by omega
  have H1 : Hid (∀ w0, Below w.heap.size w w0 → Calls Tryz.prog 9 #[.int .i64 kd, .agg #[.int .i64 Nb, .slice ab xb.length cb]] w0 fun e w' => ∃ cs : List Value, e = .returned (.tuple #[.agg cs.toArray, .int .i64 0]) ∧ KI w' cs (kB kd Nb xb) ∧ Below w0.heap.size w0 w') := fun w0 h => by
   have := build_k kd Nb ab xb cb w0 hkd hbN (Xb.keep h) Fb Cb ⟨by omega, hlx⟩ (G.kept h)
   rw [show kE kd Nb xb = 0 from kE_ok kd Nb xb k1 k3 hk] at this
   exact this
  obtain ⟨ok, okN, okX⟩ := kB_ok kd Nb xb k1 k3 Fb hk (by omega)
  obtain ⟨m, rfl⟩ := Int.eq_ofNat_of_zero_le h0
  have hm : m ≤ 3000 := by omega
  have K1 : Hid (∀ w0 cs, KI w0 cs (kB kd (m : Int) xb) → Calls Tryz.prog 21 #[.agg cs.toArray] w0 fun e w' => e = .returned (.bool true) ∧ Below w0.heap.size w0 w') := fun w0 cs h => by
   have := check_k cs (kB kd (m : Int) xb) w0 h
   rw [ok] at this
   exact this
  have K3 : Hid (∀ w0 cs, KI w0 cs (kB kd (m : Int) xb) → Calls Tryz.prog 11 #[.agg cs.toArray, .bool bit, .int .i64 m] w0 fun e w' => e = .returned (.tuple #[.int .i64 (cB xb bit m), .int .i64 0]) ∧ Below w0.heap.size w0 w') := fun w0 cs h => by
   have := rank_k cs (kB kd (m : Int) xb) bit m w0 h ⟨by omega, by omega⟩
   rw [ok, okN, okX] at this
   have eE : grE true (m : Int) m = 0 := by unfold grE; rw [if_pos rfl, if_neg (by omega)]
   unfold grN at this
   rw [eE, if_pos rfl, Int.toNat_natCast] at this
   exact this
  have K2 : Hid (∀ w0 cs, KI w0 cs (kB kd m xb) → Calls Tryz.prog 24 #[.agg cs.toArray] w0 fun e w' => ∃ co cc, e = .returned (.agg #[.int .i64 m, .slice co xb.length cc]) ∧ Wd w' co xb ∧ Below w0.heap.size w0 w') := fun w0 cs h => by
   have := bits_k cs (kB kd m xb) w0 h
   rw [okN, okX] at this
   refine this.mono ?_
   rintro e w' ⟨co, cc, rfl, g1, g2, hb⟩
   exact ⟨co, cc, rfl, g1, hb⟩
  have K4 : Hid (∀ w0 co cc, Wd w0 co xb → Wd w0 ab xb → Calls Tryz.prog 23 #[.agg #[.int .i64 m, .slice co xb.length cc], .agg #[.int .i64 m, .slice ab xb.length cb]] w0 fun e w' => e = .returned (.bool true) ∧ Below w0.heap.size w0 w') := fun w0 co cc g1 g2 => by
   have := same_c m co xb cc m ab xb cb w0 g1 g2 hlx
   simpa using this
  have iff := psel_iff (m : Int) xb bit k
  rw [Int.toNat_natCast] at iff
  have cle := cB_le xb bit m
  cases ho : pselO (m : Int) xb bit k with
  | none =>
   rw [ho] at iff
   have nin : ¬ (0 ≤ k ∧ k < (cB xb bit m : Int)) := fun h => by have := iff.2 h; simp at this
   have K5 : Hid (∀ w0 cs, KI w0 cs (kB kd (m : Int) xb) → Calls Tryz.prog 12 #[.agg cs.toArray, .bool bit, .int .i64 k] w0 fun e w' => e = .returned (.tuple #[.int .i64 0, .int .i64 3]) ∧ Below w0.heap.size w0 w') := fun w0 cs h => by
    have := select_k cs (kB kd (m : Int) xb) bit k w0 h hk_
    rw [ok, okN, okX] at this
    unfold gsX gsE at this
    rw [ho] at this
    exact this
   clear hk iff ho
   clear ok okN okX
   generalize kB kd (m : Int) xb = A1 at *
   generalize cB xb bit m = C at *
   by_cases q5 : k < 0
   ·clear nin
    go_enter Tryz.func6, Tryz.ntmps6
    go_wp2_with fail
    refine (HC.out _ (below_alloc w _)).mono ?_
    rintro e w1 ⟨rfl, hb⟩
    have hw := (below_alloc w _).trans (hb.mono (by simp))
    have B0 := (Cel.new w [.int .i64 m, .slice ab xb.length cb] 24).kept hb
    have r0 := B0.cell 0 rfl
    have r1 := B0.cell 1 rfl
    clear hb
    go_wp2_with fail
    refine (H1.out _ hw).mono ?_
    rintro e w2 ⟨cs, rfl, hP, hb⟩
    replace hw := hw.trans (hb.mono hw.size)
    replace B0 := B0.kept hb
    clear hb r0 r1
    go_wp2_with (refine store_cel w2.heap.size [.int .i64 0, .int .i64 0, .slice none 0 0, .slice none 0 0, .slice none 0 0, .int .i64 0, .int .i64 0, .int .i64 0, .int .i64 0, .slice none 0 0, .int .i64 0, .slice none 0 0, .slice none 0 0, .slice none 0 0, .int .i64 0, .int .i64 0, .int .i64 0, .int .i64 0, .int .i64 0, .slice none 0 0, .int .i64 0, .slice none 0 0] cs rfl rfl (Cel.new w2 [.int .i64 0, .int .i64 0, .slice none 0 0, .slice none 0 0, .slice none 0 0, .int .i64 0, .int .i64 0, .int .i64 0, .int .i64 0, .slice none 0 0, .int .i64 0, .slice none 0 0, .slice none 0 0, .slice none 0 0, .int .i64 0, .int .i64 0, .int .i64 0, .int .i64 0, .int .i64 0, .slice none 0 0, .int .i64 0, .slice none 0 0] 37) hP.arg.nine hP.arg.len hP.arg.one ?_)
    intro w3 Bw3 Ow3
    have bw3 : Below w2.heap.size w2 w3 := (below_alloc w2 _).trans (Ow3.below (Nat.le_refl _))
    replace hP := hP.keep bw3
    replace hw := hw.trans (bw3.mono hw.size)
    replace B0 := B0.kept bw3
    clear Ow3 bw3
    have hB := Bw3
    clear Bw3
    have r0 := B0.cell 0 rfl
    have r1 := B0.cell 1 rfl
    generalize w2.heap.size = g at *
    clear r0 r1
    have HL := Hid.mk8 hP.arg.len
    go_wp2
    refine region_g [] (fun w' => Cel w' g cs 37 ∧ Cel w' w.heap.size [.int .i64 m, .slice ab xb.length cb] 24 ∧ KI w' cs A1 ∧ Below w.heap.size w w') (by kernel_rfl) ?_
    have bD : ∀ x : World, Below x.heap.size x x.drew := fun x => (Below.refl _ _).drew
    have hS := And.intro (hB.kept (bD _)) (And.intro (B0.kept (bD _)) (And.intro (hP.keep (bD _)) hw.drew))
    clear hB B0 hP hw bD
    generalize w3.drew = wd at *
    refine AnyG.take 0 (v := ?vv29) rfl (by kernel_rfl) (by kernel_rfl) (by kernel_rfl) (by kernel_rfl) (fun _ _ _ h => h) hS ?hy29 (by rfl) ?rest29
    case hy29 =>
     intro w0 h0
     go_simp
     try with_reducible rfl
    try simp only [Act.put, yq0, yq1, yq2, yq3, yq4, yq5]
    refine AnyG.take 1 (v := ?vv30) rfl (by kernel_rfl) (by kernel_rfl) (by kernel_rfl) (by kernel_rfl) (fun _ _ _ h => h) hS ?hy30 (by rfl) ?rest30
    case hy30 =>
     intro w0 h0
     go_simp
     try with_reducible rfl
    try simp only [Act.put, yq0, yq1, yq2, yq3, yq4, yq5]
    refine AnyG.take 2 (v := ?vv31) rfl (by kernel_rfl) (by kernel_rfl) (by kernel_rfl) (by kernel_rfl) (fun _ _ _ h => h) hS ?hy31 (by rfl) ?rest31
    case hy31 =>
     intro w0 h0
     go_simp
     try with_reducible rfl
    try simp only [Act.put, yq0, yq1, yq2, yq3, yq4, yq5]
    refine AnyG.take 3 (v := .agg cs.toArray) rfl (by kernel_rfl) (by kernel_rfl) (by kernel_rfl) (by kernel_rfl) (fun _ _ _ h => h) hS ?hy32 (by rfl) ?rest32
    case hy32 =>
     intro w0 h0
     exact run_load_obj g cs rfl h0.1 Tryz.underlying37 HL.out
    try simp only [Act.put, yq0, yq1, yq2, yq3, yq4, yq5]
    refine AnyG.one 4 (by kernel_rfl) rfl ?_
    intro K hK
    go_simp
    refine (K1.out _ _ hS.2.2.1).mono ?_
    rintro e wa ⟨rfl, hb⟩
    replace hS := And.intro (hS.1.kept hb) (And.intro (hS.2.1.kept hb) (And.intro (hS.2.2.1.keep hb) (hS.2.2.2.trans (hb.mono hS.2.2.2.size))))
    clear hb
    refine hK.out _ _ (fun _ => hS) ?_
    clear hK K
    try simp only [Act.put, yq0, yq1, yq2, yq3, yq4, yq5]
    refine AnyG.take 5 (v := ?vv33) rfl (by kernel_rfl) (by kernel_rfl) (by kernel_rfl) (by kernel_rfl) (fun _ _ _ h => h) hS ?hy33 (by rfl) ?rest33
    case hy33 =>
     intro w0 h0
     go_simp
     try with_reducible rfl
    try simp only [Act.put, yq0, yq1, yq2, yq3, yq4, yq5]
    refine AnyG.take 6 (v := ?vv34) rfl (by kernel_rfl) (by kernel_rfl) (by kernel_rfl) (by kernel_rfl) (fun _ _ _ h => h) hS ?hy34 (by rfl) ?rest34
    case hy34 =>
     intro w0 h0
     go_simp
     try with_reducible rfl
    try simp only [Act.put, yq0, yq1, yq2, yq3, yq4, yq5]
    refine AnyG.take 7 (v := ?vv35) rfl (by kernel_rfl) (by kernel_rfl) (by kernel_rfl) (by kernel_rfl) (fun _ _ _ h => h) hS ?hy35 (by rfl) ?rest35
    case hy35 =>
     intro w0 h0
     go_simp
     try with_reducible rfl
    try simp only [Act.put, yq0, yq1, yq2, yq3, yq4, yq5]
    refine AnyG.take 8 (v := .agg cs.toArray) rfl (by kernel_rfl) (by kernel_rfl) (by kernel_rfl) (by kernel_rfl) (fun _ _ _ h => h) hS ?hy36 (by rfl) ?rest36
    case hy36 =>
     intro w0 h0
     exact run_load_obj g cs rfl h0.1 Tryz.underlying37 HL.out
    try simp only [Act.put, yq0, yq1, yq2, yq3, yq4, yq5]
    refine AnyG.take 10 (v := ?vv37) rfl (by kernel_rfl) (by kernel_rfl) (by kernel_rfl) (by kernel_rfl) (fun _ _ _ h => h) hS ?hy37 (by rfl) ?rest37
    case hy37 =>
     intro w0 h0
     have c0 := h0.2.1.cell 0 rfl
     have c1 := h0.2.1.cell 1 rfl
     go_simp
     try with_reducible rfl
    try simp only [Act.put, yq0, yq1, yq2, yq3, yq4, yq5]
    refine AnyG.one 9 (by kernel_rfl) rfl ?_
    intro K hK
    go_simp
    refine (K2.out _ _ hS.2.2.1).mono ?_
    rintro e wb ⟨co, cc, rfl, hx1, hb⟩
    replace hS := And.intro (hS.1.kept hb) (And.intro (hS.2.1.kept hb) (And.intro (hS.2.2.1.keep hb) (hS.2.2.2.trans (hb.mono hS.2.2.2.size))))
    clear hb
    refine hK.out _ _ (fun _ => hS) ?_
    clear hK K
    try simp only [Act.put, yq0, yq1, yq2, yq3, yq4, yq5]
    refine AnyG.one 11 (by kernel_rfl) rfl ?_
    intro K hK
    go_simp
    refine (K4.out _ _ _ hx1 (Xb.keep hS.2.2.2)).mono ?_
    rintro e wc ⟨rfl, hb⟩
    replace hS := And.intro (hS.1.kept hb) (And.intro (hS.2.1.kept hb) (And.intro (hS.2.2.1.keep hb) (hS.2.2.2.trans (hb.mono hS.2.2.2.size))))
    clear hb
    refine hK.out _ _ (fun _ => hS) ?_
    clear hK K
    try simp only [Act.put, yq0, yq1, yq2, yq3, yq4, yq5]
    refine AnyG.take 12 (v := ?vv38) rfl (by kernel_rfl) (by kernel_rfl) (by kernel_rfl) (by kernel_rfl) (fun _ _ _ h => h) hS ?hy38 (by rfl) ?rest38
    case hy38 =>
     intro w0 h0
     go_simp
     try with_reducible rfl
    try simp only [Act.put, yq0, yq1, yq2, yq3, yq4, yq5]
    refine AnyG.take 13 (v := ?vv39) rfl (by kernel_rfl) (by kernel_rfl) (by kernel_rfl) (by kernel_rfl) (fun _ _ _ h => h) hS ?hy39 (by rfl) ?rest39
    case hy39 =>
     intro w0 h0
     go_simp
     try with_reducible rfl
    try simp only [Act.put, yq0, yq1, yq2, yq3, yq4, yq5]
    refine AnyG.done (by kernel_rfl) ?_ _
    obtain ⟨hB, B0, hP, hw⟩ := hS
    clear hx1
    have r0 := B0.cell 0 rfl
    have r1 := B0.cell 1 rfl
    go_wp2_with (refine load_obj g cs (by rfl) rfl hB Tryz.underlying37 hP.arg.len ?_)
    refine (K3.out _ _ hP).mono ?_
    rintro e w5 ⟨rfl, hb⟩
    replace hP := hP.keep hb
    replace hB := hB.kept hb
    replace B0 := B0.kept hb
    replace hw := hw.trans (hb.mono hw.size)
    clear hb r0 r1
    have r0 := B0.cell 0 rfl
    have r1 := B0.cell 1 rfl
    go_wp2_with (refine load_obj g cs (by rfl) rfl hB Tryz.underlying37 hP.arg.len ?_)
    refine (K5.out _ _ hP).mono ?_
    rintro e w6 ⟨rfl, hb⟩
    replace hP := hP.keep hb
    replace hB := hB.kept hb
    replace B0 := B0.kept hb
    replace hw := hw.trans (hb.mono hw.size)
    clear hb r0 r1
    have r0 := B0.cell 0 rfl
    have r1 := B0.cell 1 rfl
    go_wp2_with fail
    refine (heads_c _ (by first | exact G.kept hw | exact G.kept hS.2.2.2.2 | exact G.kept hS.2.2 | exact G.kept (below_alloc w _))).mono ?_
    rintro e w9 ⟨rfl, hb⟩
    replace hw := hw.trans (hb.mono hw.size)
    go_wp2
    go_ret
    exact ⟨rfl, hw⟩
   ·have q6 : ¬ k < (C : Int) := fun h => nin ⟨by omega, h⟩
    clear nin
    go_enter Tryz.func6, Tryz.ntmps6
    go_wp2_with fail
    refine (HC.out _ (below_alloc w _)).mono ?_
    rintro e w1 ⟨rfl, hb⟩
    have hw := (below_alloc w _).trans (hb.mono (by simp))
    have B0 := (Cel.new w [.int .i64 m, .slice ab xb.length cb] 24).kept hb
    have r0 := B0.cell 0 rfl
    have r1 := B0.cell 1 rfl
    clear hb
    go_wp2_with fail
    refine (H1.out _ hw).mono ?_
    rintro e w2 ⟨cs, rfl, hP, hb⟩
    replace hw := hw.trans (hb.mono hw.size)
    replace B0 := B0.kept hb
    clear hb r0 r1
    go_wp2_with (refine store_cel w2.heap.size [.int .i64 0, .int .i64 0, .slice none 0 0, .slice none 0 0, .slice none 0 0, .int .i64 0, .int .i64 0, .int .i64 0, .int .i64 0, .slice none 0 0, .int .i64 0, .slice none 0 0, .slice none 0 0, .slice none 0 0, .int .i64 0, .int .i64 0, .int .i64 0, .int .i64 0, .int .i64 0, .slice none 0 0, .int .i64 0, .slice none 0 0] cs rfl rfl (Cel.new w2 [.int .i64 0, .int .i64 0, .slice none 0 0, .slice none 0 0, .slice none 0 0, .int .i64 0, .int .i64 0, .int .i64 0, .int .i64 0, .slice none 0 0, .int .i64 0, .slice none 0 0, .slice none 0 0, .slice none 0 0, .int .i64 0, .int .i64 0, .int .i64 0, .int .i64 0, .int .i64 0, .slice none 0 0, .int .i64 0, .slice none 0 0] 37) hP.arg.nine hP.arg.len hP.arg.one ?_)
    intro w3 Bw3 Ow3
    have bw3 : Below w2.heap.size w2 w3 := (below_alloc w2 _).trans (Ow3.below (Nat.le_refl _))
    replace hP := hP.keep bw3
    replace hw := hw.trans (bw3.mono hw.size)
    replace B0 := B0.kept bw3
    clear Ow3 bw3
    have hB := Bw3
    clear Bw3
    have r0 := B0.cell 0 rfl
    have r1 := B0.cell 1 rfl
    generalize w2.heap.size = g at *
    clear r0 r1
    have HL := Hid.mk8 hP.arg.len
    go_wp2
    refine region_g [] (fun w' => Cel w' g cs 37 ∧ Cel w' w.heap.size [.int .i64 m, .slice ab xb.length cb] 24 ∧ KI w' cs A1 ∧ Below w.heap.size w w') (by kernel_rfl) ?_
    have bD : ∀ x : World, Below x.heap.size x x.drew := fun x => (Below.refl _ _).drew
    have hS := And.intro (hB.kept (bD _)) (And.intro (B0.kept (bD _)) (And.intro (hP.keep (bD _)) hw.drew))
    clear hB B0 hP hw bD
    generalize w3.drew = wd at *
    refine AnyG.take 0 (v := ?vv40) rfl (by kernel_rfl) (by kernel_rfl) (by kernel_rfl) (by kernel_rfl) (fun _ _ _ h => h) hS ?hy40 (by rfl) ?rest40
    case hy40 =>
     intro w0 h0
     go_simp
     try with_reducible rfl
    try simp only [Act.put, yq0, yq1, yq2, yq3, yq4, yq5]
    refine AnyG.take 1 (v := ?vv41) rfl (by kernel_rfl) (by kernel_rfl) (by kernel_rfl) (by kernel_rfl) (fun _ _ _ h => h) hS ?hy41 (by rfl) ?rest41
    case hy41 =>
     intro w0 h0
     go_simp
     try with_reducible rfl
    try simp only [Act.put, yq0, yq1, yq2, yq3, yq4, yq5]
    refine AnyG.take 2 (v := ?vv42) rfl (by kernel_rfl) (by kernel_rfl) (by kernel_rfl) (by kernel_rfl) (fun _ _ _ h => h) hS ?hy42 (by rfl) ?rest42
    case hy42 =>
     intro w0 h0
     go_simp
     try with_reducible rfl
    try simp only [Act.put, yq0, yq1, yq2, yq3, yq4, yq5]
    refine AnyG.take 3 (v := .agg cs.toArray) rfl (by kernel_rfl) (by kernel_rfl) (by kernel_rfl) (by kernel_rfl) (fun _ _ _ h => h) hS ?hy43 (by rfl) ?rest43
    case hy43 =>
     intro w0 h0
     exact run_load_obj g cs rfl h0.1 Tryz.underlying37 HL.out
    try simp only [Act.put, yq0, yq1, yq2, yq3, yq4, yq5]
    refine AnyG.one 4 (by kernel_rfl) rfl ?_
    intro K hK
    go_simp
    refine (K1.out _ _ hS.2.2.1).mono ?_
    rintro e wa ⟨rfl, hb⟩
    replace hS := And.intro (hS.1.kept hb) (And.intro (hS.2.1.kept hb) (And.intro (hS.2.2.1.keep hb) (hS.2.2.2.trans (hb.mono hS.2.2.2.size))))
    clear hb
    refine hK.out _ _ (fun _ => hS) ?_
    clear hK K
    try simp only [Act.put, yq0, yq1, yq2, yq3, yq4, yq5]
    refine AnyG.take 5 (v := ?vv44) rfl (by kernel_rfl) (by kernel_rfl) (by kernel_rfl) (by kernel_rfl) (fun _ _ _ h => h) hS ?hy44 (by rfl) ?rest44
    case hy44 =>
     intro w0 h0
     go_simp
     try with_reducible rfl
    try simp only [Act.put, yq0, yq1, yq2, yq3, yq4, yq5]
    refine AnyG.take 6 (v := ?vv45) rfl (by kernel_rfl) (by kernel_rfl) (by kernel_rfl) (by kernel_rfl) (fun _ _ _ h => h) hS ?hy45 (by rfl) ?rest45
    case hy45 =>
     intro w0 h0
     go_simp
     try with_reducible rfl
    try simp only [Act.put, yq0, yq1, yq2, yq3, yq4, yq5]
    refine AnyG.take 7 (v := ?vv46) rfl (by kernel_rfl) (by kernel_rfl) (by kernel_rfl) (by kernel_rfl) (fun _ _ _ h => h) hS ?hy46 (by rfl) ?rest46
    case hy46 =>
     intro w0 h0
     go_simp
     try with_reducible rfl
    try simp only [Act.put, yq0, yq1, yq2, yq3, yq4, yq5]
    refine AnyG.take 8 (v := .agg cs.toArray) rfl (by kernel_rfl) (by kernel_rfl) (by kernel_rfl) (by kernel_rfl) (fun _ _ _ h => h) hS ?hy47 (by rfl) ?rest47
    case hy47 =>
     intro w0 h0
     exact run_load_obj g cs rfl h0.1 Tryz.underlying37 HL.out
    try simp only [Act.put, yq0, yq1, yq2, yq3, yq4, yq5]
    refine AnyG.take 10 (v := ?vv48) rfl (by kernel_rfl) (by kernel_rfl) (by kernel_rfl) (by kernel_rfl) (fun _ _ _ h => h) hS ?hy48 (by rfl) ?rest48
    case hy48 =>
     intro w0 h0
     have c0 := h0.2.1.cell 0 rfl
     have c1 := h0.2.1.cell 1 rfl
     go_simp
     try with_reducible rfl
    try simp only [Act.put, yq0, yq1, yq2, yq3, yq4, yq5]
    refine AnyG.one 9 (by kernel_rfl) rfl ?_
    intro K hK
    go_simp
    refine (K2.out _ _ hS.2.2.1).mono ?_
    rintro e wb ⟨co, cc, rfl, hx1, hb⟩
    replace hS := And.intro (hS.1.kept hb) (And.intro (hS.2.1.kept hb) (And.intro (hS.2.2.1.keep hb) (hS.2.2.2.trans (hb.mono hS.2.2.2.size))))
    clear hb
    refine hK.out _ _ (fun _ => hS) ?_
    clear hK K
    try simp only [Act.put, yq0, yq1, yq2, yq3, yq4, yq5]
    refine AnyG.one 11 (by kernel_rfl) rfl ?_
    intro K hK
    go_simp
    refine (K4.out _ _ _ hx1 (Xb.keep hS.2.2.2)).mono ?_
    rintro e wc ⟨rfl, hb⟩
    replace hS := And.intro (hS.1.kept hb) (And.intro (hS.2.1.kept hb) (And.intro (hS.2.2.1.keep hb) (hS.2.2.2.trans (hb.mono hS.2.2.2.size))))
    clear hb
    refine hK.out _ _ (fun _ => hS) ?_
    clear hK K
    try simp only [Act.put, yq0, yq1, yq2, yq3, yq4, yq5]
    refine AnyG.take 12 (v := ?vv49) rfl (by kernel_rfl) (by kernel_rfl) (by kernel_rfl) (by kernel_rfl) (fun _ _ _ h => h) hS ?hy49 (by rfl) ?rest49
    case hy49 =>
     intro w0 h0
     go_simp
     try with_reducible rfl
    try simp only [Act.put, yq0, yq1, yq2, yq3, yq4, yq5]
    refine AnyG.take 13 (v := ?vv50) rfl (by kernel_rfl) (by kernel_rfl) (by kernel_rfl) (by kernel_rfl) (fun _ _ _ h => h) hS ?hy50 (by rfl) ?rest50
    case hy50 =>
     intro w0 h0
     go_simp
     try with_reducible rfl
    try simp only [Act.put, yq0, yq1, yq2, yq3, yq4, yq5]
    refine AnyG.done (by kernel_rfl) ?_ _
    obtain ⟨hB, B0, hP, hw⟩ := hS
    clear hx1
    have r0 := B0.cell 0 rfl
    have r1 := B0.cell 1 rfl
    go_wp2_with (refine load_obj g cs (by rfl) rfl hB Tryz.underlying37 hP.arg.len ?_)
    refine (K3.out _ _ hP).mono ?_
    rintro e w5 ⟨rfl, hb⟩
    replace hP := hP.keep hb
    replace hB := hB.kept hb
    replace B0 := B0.kept hb
    replace hw := hw.trans (hb.mono hw.size)
    clear hb r0 r1
    have r0 := B0.cell 0 rfl
    have r1 := B0.cell 1 rfl
    go_wp2_with (refine load_obj g cs (by rfl) rfl hB Tryz.underlying37 hP.arg.len ?_)
    refine (K5.out _ _ hP).mono ?_
    rintro e w6 ⟨rfl, hb⟩
    replace hP := hP.keep hb
    replace hB := hB.kept hb
    replace B0 := B0.kept hb
    replace hw := hw.trans (hb.mono hw.size)
    clear hb r0 r1
    have r0 := B0.cell 0 rfl
    have r1 := B0.cell 1 rfl
    go_wp2_with fail
    refine (heads_c _ (by first | exact G.kept hw | exact G.kept hS.2.2.2.2 | exact G.kept hS.2.2 | exact G.kept (below_alloc w _))).mono ?_
    rintro e w9 ⟨rfl, hb⟩
    replace hw := hw.trans (hb.mono hw.size)
    go_wp2
    go_ret
    exact ⟨rfl, hw⟩
  | some j =>
   rw [ho] at iff
   obtain ⟨q5, q6⟩ := iff.1 rfl
   obtain ⟨j1, j2, j3⟩ := psel_spec (m : Int) xb bit k j ho
   rw [Int.toNat_natCast] at j1
   have K5 : Hid (∀ w0 cs, KI w0 cs (kB kd (m : Int) xb) → Calls Tryz.prog 12 #[.agg cs.toArray, .bool bit, .int .i64 k] w0 fun e w' => e = .returned (.tuple #[.int .i64 j, .int .i64 0]) ∧ Below w0.heap.size w0 w') := fun w0 cs h => by
    have := select_k cs (kB kd (m : Int) xb) bit k w0 h hk_
    rw [ok, okN, okX] at this
    unfold gsX gsE at this
    rw [ho] at this
    exact this
   have K6 : Hid (∀ w0 cs, KI w0 cs (kB kd (m : Int) xb) → Calls Tryz.prog 11 #[.agg cs.toArray, .bool bit, .int .i64 j] w0 fun e w' => e = .returned (.tuple #[.int .i64 k, .int .i64 0]) ∧ Below w0.heap.size w0 w') := fun w0 cs h => by
    have := rank_k cs (kB kd (m : Int) xb) bit j w0 h ⟨by omega, by omega⟩
    rw [ok, okN, okX] at this
    have eE : grE true (m : Int) j = 0 := by unfold grE; rw [if_pos rfl, if_neg (by omega)]
    unfold grN at this
    rw [eE, if_pos rfl, Int.toNat_natCast, j3] at this
    exact this
   have K7 : Hid (∀ w0 cs, KI w0 cs (kB kd (m : Int) xb) → Calls Tryz.prog 10 #[.agg cs.toArray, .int .i64 j] w0 fun e w' => e = .returned (.tuple #[.bool bit, .int .i64 0]) ∧ Below w0.heap.size w0 w') := fun w0 cs h => by
    have := access_k cs (kB kd (m : Int) xb) j w0 h ⟨by omega, by omega⟩
    rw [ok, okN, okX] at this
    unfold gaB gaE getB getE at this
    rw [hk, if_pos rfl, if_neg (by simp), if_neg (by omega), show decide (0 ≤ (j : Int) ∧ (j : Int) < (m : Int)) = true by simp; omega, Int.toNat_natCast, j2] at this
    simp only [Bool.true_and] at this
    exact this
   clear hk iff ho j3 j2
   clear ok okN okX
   generalize kB kd (m : Int) xb = A1 at *
   generalize cB xb bit m = C at *
   go_enter Tryz.func6, Tryz.ntmps6
   go_wp2_with fail
   refine (HC.out _ (below_alloc w _)).mono ?_
   rintro e w1 ⟨rfl, hb⟩
   have hw := (below_alloc w _).trans (hb.mono (by simp))
   have B0 := (Cel.new w [.int .i64 m, .slice ab xb.length cb] 24).kept hb
   have r0 := B0.cell 0 rfl
   have r1 := B0.cell 1 rfl
   clear hb
   go_wp2_with fail
   refine (H1.out _ hw).mono ?_
   rintro e w2 ⟨cs, rfl, hP, hb⟩
   replace hw := hw.trans (hb.mono hw.size)
   replace B0 := B0.kept hb
   clear hb r0 r1
   go_wp2_with (refine store_cel w2.heap.size [.int .i64 0, .int .i64 0, .slice none 0 0, .slice none 0 0, .slice none 0 0, .int .i64 0, .int .i64 0, .int .i64 0, .int .i64 0, .slice none 0 0, .int .i64 0, .slice none 0 0, .slice none 0 0, .slice none 0 0, .int .i64 0, .int .i64 0, .int .i64 0, .int .i64 0, .int .i64 0, .slice none 0 0, .int .i64 0, .slice none 0 0] cs rfl rfl (Cel.new w2 [.int .i64 0, .int .i64 0, .slice none 0 0, .slice none 0 0, .slice none 0 0, .int .i64 0, .int .i64 0, .int .i64 0, .int .i64 0, .slice none 0 0, .int .i64 0, .slice none 0 0, .slice none 0 0, .slice none 0 0, .int .i64 0, .int .i64 0, .int .i64 0, .int .i64 0, .int .i64 0, .slice none 0 0, .int .i64 0, .slice none 0 0] 37) hP.arg.nine hP.arg.len hP.arg.one ?_)
   intro w3 Bw3 Ow3
   have bw3 : Below w2.heap.size w2 w3 := (below_alloc w2 _).trans (Ow3.below (Nat.le_refl _))
   replace hP := hP.keep bw3
   replace hw := hw.trans (bw3.mono hw.size)
   replace B0 := B0.kept bw3
   clear Ow3 bw3
   have hB := Bw3
   clear Bw3
   have r0 := B0.cell 0 rfl
   have r1 := B0.cell 1 rfl
   generalize w2.heap.size = g at *
   clear r0 r1
   have HL := Hid.mk8 hP.arg.len
   go_wp2
   refine region_g [] (fun w' => Cel w' g cs 37 ∧ Cel w' w.heap.size [.int .i64 m, .slice ab xb.length cb] 24 ∧ KI w' cs A1 ∧ Below w.heap.size w w') (by kernel_rfl) ?_
   have bD : ∀ x : World, Below x.heap.size x x.drew := fun x => (Below.refl _ _).drew
   have hS := And.intro (hB.kept (bD _)) (And.intro (B0.kept (bD _)) (And.intro (hP.keep (bD _)) hw.drew))
   clear hB B0 hP hw bD
   generalize w3.drew = wd at *
   refine AnyG.take 0 (v := ?vv51) rfl (by kernel_rfl) (by kernel_rfl) (by kernel_rfl) (by kernel_rfl) (fun _ _ _ h => h) hS ?hy51 (by rfl) ?rest51
   case hy51 =>
    intro w0 h0
    go_simp
    try with_reducible rfl
   try simp only [Act.put, yq0, yq1, yq2, yq3, yq4, yq5]
   refine AnyG.take 1 (v := ?vv52) rfl (by kernel_rfl) (by kernel_rfl) (by kernel_rfl) (by kernel_rfl) (fun _ _ _ h => h) hS ?hy52 (by rfl) ?rest52
   case hy52 =>
    intro w0 h0
    go_simp
    try with_reducible rfl
   try simp only [Act.put, yq0, yq1, yq2, yq3, yq4, yq5]
   refine AnyG.take 2 (v := ?vv53) rfl (by kernel_rfl) (by kernel_rfl) (by kernel_rfl) (by kernel_rfl) (fun _ _ _ h => h) hS ?hy53 (by rfl) ?rest53
   case hy53 =>
    intro w0 h0
    go_simp
    try with_reducible rfl
   try simp only [Act.put, yq0, yq1, yq2, yq3, yq4, yq5]
   refine AnyG.take 3 (v := .agg cs.toArray) rfl (by kernel_rfl) (by kernel_rfl) (by kernel_rfl) (by kernel_rfl) (fun _ _ _ h => h) hS ?hy54 (by rfl) ?rest54
   case hy54 =>
    intro w0 h0
    exact run_load_obj g cs rfl h0.1 Tryz.underlying37 HL.out
   try simp only [Act.put, yq0, yq1, yq2, yq3, yq4, yq5]
   refine AnyG.one 4 (by kernel_rfl) rfl ?_
   intro K hK
   go_simp
   refine (K1.out _ _ hS.2.2.1).mono ?_
   rintro e wa ⟨rfl, hb⟩
   replace hS := And.intro (hS.1.kept hb) (And.intro (hS.2.1.kept hb) (And.intro (hS.2.2.1.keep hb) (hS.2.2.2.trans (hb.mono hS.2.2.2.size))))
   clear hb
   refine hK.out _ _ (fun _ => hS) ?_
   clear hK K
   try simp only [Act.put, yq0, yq1, yq2, yq3, yq4, yq5]
   refine AnyG.take 5 (v := ?vv55) rfl (by kernel_rfl) (by kernel_rfl) (by kernel_rfl) (by kernel_rfl) (fun _ _ _ h => h) hS ?hy55 (by rfl) ?rest55
   case hy55 =>
    intro w0 h0
    go_simp
    try with_reducible rfl
   try simp only [Act.put, yq0, yq1, yq2, yq3, yq4, yq5]
   refine AnyG.take 6 (v := ?vv56) rfl (by kernel_rfl) (by kernel_rfl) (by kernel_rfl) (by kernel_rfl) (fun _ _ _ h => h) hS ?hy56 (by rfl) ?rest56
   case hy56 =>
    intro w0 h0
    go_simp
    try with_reducible rfl
   try simp only [Act.put, yq0, yq1, yq2, yq3, yq4, yq5]
   refine AnyG.take 7 (v := ?vv57) rfl (by kernel_rfl) (by kernel_rfl) (by kernel_rfl) (by kernel_rfl) (fun _ _ _ h => h) hS ?hy57 (by rfl) ?rest57
   case hy57 =>
    intro w0 h0
    go_simp
    try with_reducible rfl
   try simp only [Act.put, yq0, yq1, yq2, yq3, yq4, yq5]
   refine AnyG.take 8 (v := .agg cs.toArray) rfl (by kernel_rfl) (by kernel_rfl) (by kernel_rfl) (by kernel_rfl) (fun _ _ _ h => h) hS ?hy58 (by rfl) ?rest58
   case hy58 =>
    intro w0 h0
    exact run_load_obj g cs rfl h0.1 Tryz.underlying37 HL.out
   try simp only [Act.put, yq0, yq1, yq2, yq3, yq4, yq5]
   refine AnyG.take 10 (v := ?vv59) rfl (by kernel_rfl) (by kernel_rfl) (by kernel_rfl) (by kernel_rfl) (fun _ _ _ h => h) hS ?hy59 (by rfl) ?rest59
   case hy59 =>
    intro w0 h0
    have c0 := h0.2.1.cell 0 rfl
    have c1 := h0.2.1.cell 1 rfl
    go_simp
    try with_reducible rfl
   try simp only [Act.put, yq0, yq1, yq2, yq3, yq4, yq5]
   refine AnyG.one 9 (by kernel_rfl) rfl ?_
   intro K hK
   go_simp
   refine (K2.out _ _ hS.2.2.1).mono ?_
   rintro e wb ⟨co, cc, rfl, hx1, hb⟩
   replace hS := And.intro (hS.1.kept hb) (And.intro (hS.2.1.kept hb) (And.intro (hS.2.2.1.keep hb) (hS.2.2.2.trans (hb.mono hS.2.2.2.size))))
   clear hb
   refine hK.out _ _ (fun _ => hS) ?_
   clear hK K
   try simp only [Act.put, yq0, yq1, yq2, yq3, yq4, yq5]
   refine AnyG.one 11 (by kernel_rfl) rfl ?_
   intro K hK
   go_simp
   refine (K4.out _ _ _ hx1 (Xb.keep hS.2.2.2)).mono ?_
   rintro e wc ⟨rfl, hb⟩
   replace hS := And.intro (hS.1.kept hb) (And.intro (hS.2.1.kept hb) (And.intro (hS.2.2.1.keep hb) (hS.2.2.2.trans (hb.mono hS.2.2.2.size))))
   clear hb
   refine hK.out _ _ (fun _ => hS) ?_
   clear hK K
   try simp only [Act.put, yq0, yq1, yq2, yq3, yq4, yq5]
   refine AnyG.take 12 (v := ?vv60) rfl (by kernel_rfl) (by kernel_rfl) (by kernel_rfl) (by kernel_rfl) (fun _ _ _ h => h) hS ?hy60 (by rfl) ?rest60
   case hy60 =>
    intro w0 h0
    go_simp
    try with_reducible rfl
   try simp only [Act.put, yq0, yq1, yq2, yq3, yq4, yq5]
   refine AnyG.take 13 (v := ?vv61) rfl (by kernel_rfl) (by kernel_rfl) (by kernel_rfl) (by kernel_rfl) (fun _ _ _ h => h) hS ?hy61 (by rfl) ?rest61
   case hy61 =>
    intro w0 h0
    go_simp
    try with_reducible rfl
   try simp only [Act.put, yq0, yq1, yq2, yq3, yq4, yq5]
   refine AnyG.done (by kernel_rfl) ?_ _
   obtain ⟨hB, B0, hP, hw⟩ := hS
   clear hx1
   have r0 := B0.cell 0 rfl
   have r1 := B0.cell 1 rfl
   go_wp2_with (refine load_obj g cs (by rfl) rfl hB Tryz.underlying37 hP.arg.len ?_)
   refine (K3.out _ _ hP).mono ?_
   rintro e w5 ⟨rfl, hb⟩
   replace hP := hP.keep hb
   replace hB := hB.kept hb
   replace B0 := B0.kept hb
   replace hw := hw.trans (hb.mono hw.size)
   clear hb r0 r1
   have r0 := B0.cell 0 rfl
   have r1 := B0.cell 1 rfl
   go_wp2_with (refine load_obj g cs (by rfl) rfl hB Tryz.underlying37 hP.arg.len ?_)
   refine (K5.out _ _ hP).mono ?_
   rintro e w6 ⟨rfl, hb⟩
   replace hP := hP.keep hb
   replace hB := hB.kept hb
   replace B0 := B0.kept hb
   replace hw := hw.trans (hb.mono hw.size)
   clear hb r0 r1
   have r0 := B0.cell 0 rfl
   have r1 := B0.cell 1 rfl
   go_wp2_with (refine load_obj g cs (by rfl) rfl hB Tryz.underlying37 hP.arg.len ?_)
   refine (K6.out _ _ hP).mono ?_
   rintro e w7 ⟨rfl, hb⟩
   replace hP := hP.keep hb
   replace hB := hB.kept hb
   replace B0 := B0.kept hb
   replace hw := hw.trans (hb.mono hw.size)
   clear hb r0 r1
   have r0 := B0.cell 0 rfl
   have r1 := B0.cell 1 rfl
   go_wp2_with (refine load_obj g cs (by rfl) rfl hB Tryz.underlying37 hP.arg.len ?_)
   refine (K7.out _ _ hP).mono ?_
   rintro e w8 ⟨rfl, hb⟩
   replace hP := hP.keep hb
   replace hB := hB.kept hb
   replace B0 := B0.kept hb
   replace hw := hw.trans (hb.mono hw.size)
   clear hb r0 r1
   have r0 := B0.cell 0 rfl
   have r1 := B0.cell 1 rfl
   go_wp2_with fail
   refine (heads_c _ (by first | exact G.kept hw | exact G.kept hS.2.2.2.2 | exact G.kept hS.2.2 | exact G.kept (below_alloc w _))).mono ?_
   rintro e w9 ⟨rfl, hb⟩
   replace hw := hw.trans (hb.mono hw.size)
   go_wp2
   go_ret
   exact ⟨rfl, hw⟩
theorem door_met (os : Os) (args : Array Value) : laidMetH Tryz.prog [("errors.errorType", Rows.laid_errors_errorType), ("haystack/rrr.ways", Rows.laid_haystack_rrr_ways), ("haystack/rrr.widths", Rows.laid_haystack_rrr_widths)] ((World.doorLaid Tryz.prog 400 os).forCall (fun _ _ => 0) ⟨#[], args, []⟩).memory :=
 laidMetH_of_parts3 (fuel := 8) (laidMet_of_run' 8 (by kernel_rfl) (by kernel_rfl)) (by kernel_rfl) (by kernel_rfl)
theorem lifted (os : Os) (started : os.Started) (H : Type) (enc : TypeId × Value → H) :
  ReturnsInHanded {} Tryz.checked os 6 .any (fun w args => (Rows.vectorBackSpec.pre enc Tryz.prog Tryz.f6 [] false w args ∧ laidMetH Tryz.prog [("errors.errorType", Rows.laid_errors_errorType), ("haystack/rrr.ways", Rows.laid_haystack_rrr_ways), ("haystack/rrr.widths", Rows.laid_haystack_rrr_widths)] w) ∧ sizedMet enc Tryz.prog Tryz.f6 (OpenSpec.ofChange Rows.vectorBackSpec) false w args)
   (Rows.vectorBackSpec.post enc Tryz.prog Tryz.f6 false true false false) := by
 refine returnsInHanded_of_change_and (C := Tryz.checked) (X := fun w _ => laidMetH Tryz.prog [("errors.errorType", Rows.laid_errors_errorType), ("haystack/rrr.ways", Rows.laid_haystack_rrr_ways), ("haystack/rrr.widths", Rows.laid_haystack_rrr_widths)] w) (fun _ _ _ hh h => h.of_heap hh) own started (by kernel_rfl) Tryz.func6
  (ChangeSpec.witness_shaped (enc := enc) (C := Tryz.checked) (os := os) (X := fun w _ => laidMetH Tryz.prog [("errors.errorType", Rows.laid_errors_errorType), ("haystack/rrr.ways", Rows.laid_haystack_rrr_ways), ("haystack/rrr.widths", Rows.laid_haystack_rrr_widths)] w) false (World.doorLaid Tryz.prog 400 os) #[.int .i64 0, .agg #[.int .i64 0, .slice none 0 0], .bool false, .int .i64 0] 8 rfl (World.shaped_of_RefB (by kernel_rfl) (by kernel_rfl)) (by kernel_rfl) (by kernel_rfl) (by kernel_rfl) (door_met os _)) ?_
 intro W base args ds gs before hval0 hW _ _ hL _
 have hval : ∀ (j : Nat) t v, Tryz.f6.params[j]? = some t → args[j]? = some v → Value.okWide Tryz.prog W .any base t v := hval0
 have hW' := hW
 obtain ⟨p, q, hA0, hV, rfl, hfz, hnd⟩ := hW
 have hA : DataW.TrodAll enc Tryz.prog W 0 (fun _ => true) true Tryz.f6.params.toList args.toList ds p := hA0
 rw [Tryz.params6] at hA hval
 obtain ⟨v0, vs0, d0, ds0, p0, q0, hargs, rfl, rfl, h0, r0⟩ := trodAll_cons hA
 obtain ⟨v1, vs1, d1, ds1, p1, q1, rfl, rfl, rfl, h1, r1⟩ := trodAll_cons r0
 obtain ⟨v2, vs2, d2, ds2, p2, q2, rfl, rfl, rfl, h2, r2⟩ := trodAll_cons r1
 obtain ⟨v3, vs3, d3, ds3, p3, q3, rfl, rfl, rfl, h3, r3⟩ := trodAll_cons r2
 obtain ⟨rfl, rfl, rfl⟩ := trodAll_nil r3
 obtain rfl : args = #[v0, v1, v2, v3] := by cases args; simp_all
 obtain ⟨rfl, rfl⟩ := trodVars_none hV
 obtain ⟨kd, rfl, rfl, rfl, w0⟩ := open_int Tryz.underlying3 (hval 0 3 v0 rfl rfl) h0
 have k1 := h1
 have lt1 : ∀ x ∈ p1, x.block < W.heap.size := by obtain ⟨m, hm⟩ := k1; exact DataW.trod_lt m _ _ _ hm
 obtain ⟨Nb, ab, xb, cb, rfl, bb1, bb2, bb3, bb4⟩ := open_bits (hval 1 24 v1 rfl rfl) h1
 obtain ⟨bit, rfl, rfl, rfl⟩ := open_bool Tryz.underlying4 (hval 2 4 v2 rfl rfl) h2
 obtain ⟨k, rfl, rfl, rfl, w3⟩ := open_int Tryz.underlying3 (hval 3 3 v3 rfl rfl) h3
 clear hA0 hval0
 refine (walk W (gv_of_laid hL) kd (i64_wf _ w0) Nb ab xb cb bb1 bb2 bb3 bb4 bit k (i64_wf _ w3)).mono fun e W' ⟨he, bel⟩ => ?_
 subst he
 exact ⟨_, rfl, _, _, _, [], _, [], hW', trodAll_mk1 (shut_bool Tryz.underlying4 _), (trodAll_cons_mk (shut_int Tryz.underlying3 w0) (trodAll_cons_mk (Below.trod laidOut (by kernel_rfl) (of_decide_eq_true (by kernel_rfl)) k1 bel lt1) (trodAll_cons_mk (shut_bool Tryz.underlying4 bit) (trodAll_cons_mk (shut_int Tryz.underlying3 w3) trodAll_mk0)))), rfl, bel.frame _, fun h => by cases h⟩
set_option maxHeartbeats 80000000 in
theorem closed : joinedFacts Tryz.prog 6 Tryz.f6 Rows.vectorBackSpec Rows.vectorBackRow = true := by
 unfold joinedFacts
 repeat' (with_reducible apply and_tt)
 all_goals decide +kernel
theorem over : Rows.vectorBackRow.holds Tryz.pinned (OpenSpec.ofChange Rows.vectorBackSpec) :=
 OpenClaim.holds_of_wide 6 Tryz.f6 rfl rfl rfl rfl rfl rfl rfl ⟨rfl, rfl, rfl, rfl, rfl⟩ rfl rfl rfl rfl rfl (by kernel_rfl) Tryz.func6 closed
  (of_decide_eq_true (by kernel_rfl)) (by unfold Func.isWrapper; first | (rw [if_pos (by decide +kernel)]; kernel_rfl) | (rw [if_neg (by decide +kernel)]; exact ⟨rfl, rfl⟩))
  (fun os started H enc _ => lifted os started H enc)
theorem proved : Rows.VectorBackCardSaid :=
 Claim7.holds_tied_plain_at .later [] [.handle, .data, .data] true (true, "2bd0379edccf0840bff9a4e248c1b4fe7872517fd67d6c1943d395fa38030269") true
  over (fun _ h => by cases h) (by kernel_rfl) (fun _ h => by cases h) vectorBack_row_tie rfl ⟨rfl, rfl⟩ (by kernel_rfl) rfl
  (fun f fn hf hfn => by
   obtain rfl : f = 6 := Option.some.inj ((show Tryz.prog.funcNamed "haystack/haystacklaw10.VectorBack" = some 6 by kernel_rfl).symm.trans hf) |>.symm
   obtain rfl : fn = Tryz.f6 := (Option.some.inj (Tryz.func6.symm.trans hfn)).symm
   exact ⟨by kernel_rfl, fun j t ht => by
    rw [Tryz.params6] at ht
    have hm : t ∈ [3, 24, 4, 3] := by simpa using Array.mem_of_getElem? ht
    have hall : ([3, 24, 4, 3].all fun u => !Tryz.prog.wantsStandIn u) = true := by kernel_rfl
    exact (show Tryz.prog.wantsStandIn t = false by simpa using List.all_eq_true.1 hall t hm)⟩)
  (by kernel_rfl)
end Go.Proofs.YtpeecabfcgijhaaGreatDoor.vectorBack
namespace Go.Proofs.YtpeecabfcgijhaaGreatDoor
theorem vectorBack_holds : Rows.VectorBackCardSaid := vectorBack.proved
#print axioms vectorBack_holds
end Go.Proofs.YtpeecabfcgijhaaGreatDoor
