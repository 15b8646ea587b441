/-
  FanoSizes: a row by its places needs at most twice its bits, and 65.
-/
import Derived.Test.YtjkihmjbhiiknaaDoorM12
import Derived.Test.YtjkihmjbhiiknaaDoorM02
import Derived.Test.YtjkihmjbhiiknaaDoorCards
import Derived.Test.YtjkihmjbhiiknaaDoorTie
import Derived.ChangeOld
import Derived.LaidMore
import Derived.SevenTiedAt
namespace Go.Proofs.YtjkihmjbhiiknaaDoor.fanoSizes
open Go.ChangeShapes Go.WideShapes Go.ChangeAt Go.RowKit Num Bit
set_option linter.unusedVariables false
set_option linter.unusedSimpArgs false
set_option maxRecDepth 100000


set_option maxHeartbeats 8000000 in
theorem walk (w : World) (Nb : Int) (ab : Option Addr) (xb : List Nat) (cb : Nat) (hbN : -9223372036854775808 ≤ Nb ∧ Nb ≤ 9223372036854775807) (Xb : Wd w ab xb) (Fb : Fit xb) (Cb : xb.length ≤ cb) :
    Calls Tryd.prog 4 #[.agg #[.int .i64 Nb, .slice ab xb.length cb]] w fun e w' => e = .returned (.bool true) ∧ Below w.heap.size w w' := by
  by_cases q1 : 3000 < Nb
  · go_enter Tryd.func4, Tryd.ntmps4
    go_wp2_with fail
    refine (heads_c _).mono ?_
    rintro e w9 ⟨rfl, hb⟩
    go_wp2
    go_ret
    exact ⟨rfl, (below_alloc w _).trans (hb.mono (by simp))⟩
  by_cases q2 : (3000 : Int) < (xb.length : Int)
  · go_enter Tryd.func4, Tryd.ntmps4
    go_wp2_with fail
    refine (heads_c _).mono ?_
    rintro e w9 ⟨rfl, hb⟩
    go_wp2
    go_ret
    exact ⟨rfl, (below_alloc w _).trans (hb.mono (by simp))⟩
  have hlx : xb.length ≤ 1048576 := by omega
  have HC : Hid (∀ w0, Below w.heap.size w w0 → Calls Tryd.prog 8 #[.agg #[.int .i64 Nb, .slice ab xb.length cb]] w0 fun e w' => e = .returned (.bool (chk Nb xb)) ∧ Below w0.heap.size w0 w') := fun w0 h => refcheck_c Nb ab xb cb w0 (Xb.keep h) Fb
  cases hk : chk Nb xb with
  | false =>
    rw [hk] at HC
    go_enter Tryd.func4, Tryd.ntmps4
    go_wp2_with fail
    refine (HC.out _ (below_alloc w _)).mono ?_
    rintro e w1 ⟨rfl, hb⟩
    have hw := (below_alloc w _).trans (hb.mono (by simp))
    have B0 := (Cel.new w [.int .i64 Nb, .slice ab xb.length cb] 24).kept hb
    have r0 := B0.cell 0 rfl
    have r1 := B0.cell 1 rfl
    clear hb
    go_wp2_with fail
    refine (heads_c _).mono ?_
    rintro e w9 ⟨rfl, hb⟩
    replace hw := hw.trans (hb.mono hw.size)
    go_wp2
    go_ret
    exact ⟨rfl, hw⟩
  | true =>
    rw [hk] at HC
    obtain ⟨h0, h1, -, -⟩ := chk_out Nb xb hk
    have H1 : Hid (∀ w0, Below w.heap.size w w0 → Calls Tryd.prog 10 #[.agg #[.int .i64 Nb, .slice ab xb.length cb]] w0 fun e w' => ∃ cs : List Value, e = .returned (.tuple #[.agg cs.toArray, .int .i64 0]) ∧ KI w' cs (kB Nb xb) ∧ Below w0.heap.size w0 w') := fun w0 h => by
      have := build_k Nb ab xb cb w0 hbN (Xb.keep h) Fb Cb ⟨by omega, hlx⟩
      rw [show kE Nb xb = 0 from kE_ok Nb xb hk] at this
      exact this
    obtain ⟨ok, okN, okX⟩ := kB_ok Nb xb Fb hk (by omega)
    obtain ⟨m, rfl⟩ := Int.eq_ofNat_of_zero_le h0
    have hm : m ≤ 3000 := by omega
    obtain ⟨zv1, zv2⟩ := kZ_val m xb Fb hk hm
    obtain ⟨pN, pM, pH, pH2⟩ := kB_parts m xb hk
    have cle := cntB_le xb m
    have RO : Hid (∀ w0, Below w.heap.size w w0 → Calls Tryd.prog 13 #[.agg #[.int .i64 (m : Int), .slice ab xb.length cb], .int .i64 (m : Int)] w0 fun e w' => e = .returned (.int .i64 (cntB xb m : Nat)) ∧ Below w0.heap.size w0 w') := fun w0 h => by
      have := refones_c m ab xb cb m w0 (Xb.keep h) Fb
      have on : onesI (m : Int) xb (m : Int) = (cntB xb m : Int) := by
        unfold onesI
        rw [hk, show min (m : Int) (m : Int) = (m : Int) by omega, Int.toNat_natCast]
        rfl
      rw [on] at this
      exact this
    obtain ⟨Z1, hZ1⟩ : ∃ Z, Hid (Z = kZ (kB (m : Int) xb)) := ⟨_, rfl⟩
    rw [← hZ1.out] at zv1 zv2
    have K9 : Hid (∀ w0 cs, KI w0 cs (kB (m : Int) xb) → Calls Tryd.prog 14 #[.agg cs.toArray] w0 fun e w' => e = .returned (.int .i64 Z1) ∧ Below w0.heap.size w0 w') := fun w0 cs h => by
      have := size_k cs (kB (m : Int) xb) w0 h
      rw [← hZ1.out] at this
      exact this
    clear hZ1 ok okN okX hk
    generalize kB (m : Int) xb = A1 at *
    rw [pM] at pH
    generalize cntB xb m = c at *
    go_enter Tryd.func4, Tryd.ntmps4
    go_wp2_with fail
    refine (HC.out _ (below_alloc w _)).mono ?_
    rintro e w1 ⟨rfl, hb⟩
    have hw := (below_alloc w _).trans (hb.mono (by simp))
    have B0 := (Cel.new w [.int .i64 m, .slice ab xb.length cb] 24).kept hb
    have r0 := B0.cell 0 rfl
    have r1 := B0.cell 1 rfl
    clear hb
    go_wp2_with fail
    refine (H1.out _ hw).mono ?_
    rintro e w2 ⟨cs, rfl, hP, hb⟩
    replace hw := hw.trans (hb.mono hw.size)
    replace B0 := B0.kept hb
    clear hb r0 r1
    go_wp2_with (refine store_cel w2.heap.size [.int .i64 0, .int .i64 0, .int .i64 0, .int .i64 0, .int .i64 0, .slice none 0 0, .int .i64 0, .slice none 0 0] cs rfl rfl (Cel.new w2 [.int .i64 0, .int .i64 0, .int .i64 0, .int .i64 0, .int .i64 0, .slice none 0 0, .int .i64 0, .slice none 0 0] 30) hP.arg.nine hP.arg.len hP.arg.one ?_)
    intro w3 Bw3 Ow3
    have bw3 : Below w2.heap.size w2 w3 := (below_alloc w2 _).trans (Ow3.below (Nat.le_refl _))
    replace hP := hP.keep bw3
    replace hw := hw.trans (bw3.mono hw.size)
    replace B0 := B0.kept bw3
    clear Ow3 bw3
    have hB := Bw3
    clear Bw3
    have r0 := B0.cell 0 rfl
    have r1 := B0.cell 1 rfl
    generalize w2.heap.size = g at *
    obtain ⟨oo, oc, po, pc, rfl, _⟩ := hP.arg
    obtain ⟨N7, M7, k7, V7, LM7, xs7, H7, ys7⟩ := A1
    dsimp only at *
    subst pN pM
    have wa : IntKind.i64.wrap (2 * (m : Int)) = 2 * (m : Int) := by rw [IntKind.wrap_i64]; omega
    have wb : IntKind.i64.wrap (2 * (m : Int) + 65) = 2 * (m : Int) + 65 := by rw [IntKind.wrap_i64]; omega
    have wc_ : IntKind.i64.wrap ((c : Int) + 1) = (c : Int) + 1 := by rw [IntKind.wrap_i64]; omega
    try clear r0 r1
    have HL := hide9' hP.arg.len
    go_wp2
    refine region_g [] (fun w' => Cel w' g [.int .i64 (m : Int), .int .i64 (c : Int), .int .i64 k7, .int .i64 V7, .int .i64 LM7, .slice oo xs7.length oc, .int .i64 H7, .slice po ys7.length pc] 30 ∧ Cel w' w.heap.size [.int .i64 (m : Int), .slice ab xb.length cb] 24 ∧ KI w' [.int .i64 (m : Int), .int .i64 (c : Int), .int .i64 k7, .int .i64 V7, .int .i64 LM7, .slice oo xs7.length oc, .int .i64 H7, .slice po ys7.length pc] ⟨m, c, k7, V7, LM7, xs7, H7, ys7⟩ ∧ Below w.heap.size w w') (by kernel_rfl) ?_
    have bD : ∀ x : World, Below x.heap.size x x.drew := fun x => (Below.refl _ _).drew
    have hS := And.intro (hB.kept (bD _)) (And.intro (B0.kept (bD _)) (And.intro (hP.keep (bD _)) hw.drew))
    clear hB B0 hP hw bD
    generalize w3.drew = wd at *
    refine AnyG.take 0 (v := ?vv62) rfl (by kernel_rfl) (by kernel_rfl) (by kernel_rfl) (by kernel_rfl) (fun _ _ _ h => h) hS ?hy62 (by rfl) ?rest62
    case hy62 =>
      intro w0 h0
      go_simp
      try with_reducible rfl
    try simp only [Act.put, List.getElem_toArray, List.getElem_cons_zero, List.getElem_cons_succ, List.setIfInBounds_toArray, List.set_cons_zero, List.set_cons_succ]
    refine AnyG.take 1 (v := ?vv63) rfl (by kernel_rfl) (by kernel_rfl) (by kernel_rfl) (by kernel_rfl) (fun _ _ _ h => h) hS ?hy63 (by rfl) ?rest63
    case hy63 =>
      intro w0 h0
      go_simp
      try with_reducible rfl
    try simp only [Act.put, List.getElem_toArray, List.getElem_cons_zero, List.getElem_cons_succ, List.setIfInBounds_toArray, List.set_cons_zero, List.set_cons_succ]
    refine AnyG.take 2 (v := ?vv64) rfl (by kernel_rfl) (by kernel_rfl) (by kernel_rfl) (by kernel_rfl) (fun _ _ _ h => h) hS ?hy64 (by rfl) ?rest64
    case hy64 =>
      intro w0 h0
      go_simp
      try with_reducible rfl
    try simp only [Act.put, List.getElem_toArray, List.getElem_cons_zero, List.getElem_cons_succ, List.setIfInBounds_toArray, List.set_cons_zero, List.set_cons_succ]
    refine AnyG.take 3 (v := ?vv65) rfl (by kernel_rfl) (by kernel_rfl) (by kernel_rfl) (by kernel_rfl) (fun _ _ _ h => h) hS ?hy65 (by rfl) ?rest65
    case hy65 =>
      intro w0 h0
      go_simp
      try with_reducible rfl
    try simp only [Act.put, List.getElem_toArray, List.getElem_cons_zero, List.getElem_cons_succ, List.setIfInBounds_toArray, List.set_cons_zero, List.set_cons_succ]
    refine AnyG.take 4 (v := ?vv66) rfl (by kernel_rfl) (by kernel_rfl) (by kernel_rfl) (by kernel_rfl) (fun _ _ _ h => h) hS ?hy66 (by rfl) ?rest66
    case hy66 =>
      intro w0 h0
      have o1 := h0.1.cell 1 rfl
      go_simp
      try with_reducible rfl
    try simp only [Act.put, List.getElem_toArray, List.getElem_cons_zero, List.getElem_cons_succ, List.setIfInBounds_toArray, List.set_cons_zero, List.set_cons_succ]
    refine AnyG.take 5 (v := ?vv67) rfl (by kernel_rfl) (by kernel_rfl) (by kernel_rfl) (by kernel_rfl) (fun _ _ _ h => h) hS ?hy67 (by rfl) ?rest67
    case hy67 =>
      intro w0 h0
      have c0 := h0.2.1.cell 0 rfl
      have c1 := h0.2.1.cell 1 rfl
      go_simp
      try with_reducible rfl
    try simp only [Act.put, List.getElem_toArray, List.getElem_cons_zero, List.getElem_cons_succ, List.setIfInBounds_toArray, List.set_cons_zero, List.set_cons_succ]
    refine AnyG.take 6 (v := ?vv68) rfl (by kernel_rfl) (by kernel_rfl) (by kernel_rfl) (by kernel_rfl) (fun _ _ _ h => h) hS ?hy68 (by rfl) ?rest68
    case hy68 =>
      intro w0 h0
      go_simp
      try with_reducible rfl
    try simp only [Act.put, List.getElem_toArray, List.getElem_cons_zero, List.getElem_cons_succ, List.setIfInBounds_toArray, List.set_cons_zero, List.set_cons_succ]
    refine AnyG.take 7 (v := ?vv69) rfl (by kernel_rfl) (by kernel_rfl) (by kernel_rfl) (by kernel_rfl) (fun _ _ _ h => h) hS ?hy69 (by rfl) ?rest69
    case hy69 =>
      intro w0 h0
      have c0 := h0.2.1.cell 0 rfl
      have c1 := h0.2.1.cell 1 rfl
      go_simp
      try with_reducible rfl
    try simp only [Act.put, List.getElem_toArray, List.getElem_cons_zero, List.getElem_cons_succ, List.setIfInBounds_toArray, List.set_cons_zero, List.set_cons_succ]
    refine AnyG.one 8 (by kernel_rfl) rfl ?_
    intro K hK
    go_simp
    refine (RO.out _ hS.2.2.2).mono ?_
    rintro e wa ⟨rfl, hb⟩
    replace hS := And.intro (hS.1.kept hb) (And.intro (hS.2.1.kept hb) (And.intro (hS.2.2.1.keep hb) (hS.2.2.2.trans (hb.mono hS.2.2.2.size))))
    clear hb
    refine hK.out _ _ (fun _ => hS) ?_
    clear hK K
    try simp only [Act.put, List.getElem_toArray, List.getElem_cons_zero, List.getElem_cons_succ, List.setIfInBounds_toArray, List.set_cons_zero, List.set_cons_succ]
    refine AnyG.take 9 (v := ?vv70) rfl (by kernel_rfl) (by kernel_rfl) (by kernel_rfl) (by kernel_rfl) (fun _ _ _ h => h) hS ?hy70 (by rfl) ?rest70
    case hy70 =>
      intro w0 h0
      go_simp
      try with_reducible rfl
    try simp only [Act.put, List.getElem_toArray, List.getElem_cons_zero, List.getElem_cons_succ, List.setIfInBounds_toArray, List.set_cons_zero, List.set_cons_succ]
    refine AnyG.take 10 (v := ?vv71) rfl (by kernel_rfl) (by kernel_rfl) (by kernel_rfl) (by kernel_rfl) (fun _ _ _ h => h) hS ?hy71 (by rfl) ?rest71
    case hy71 =>
      intro w0 h0
      go_simp
      try with_reducible rfl
    try simp only [Act.put, List.getElem_toArray, List.getElem_cons_zero, List.getElem_cons_succ, List.setIfInBounds_toArray, List.set_cons_zero, List.set_cons_succ]
    refine AnyG.take 11 (v := ?vv72) rfl (by kernel_rfl) (by kernel_rfl) (by kernel_rfl) (by kernel_rfl) (fun _ _ _ h => h) hS ?hy72 (by rfl) ?rest72
    case hy72 =>
      intro w0 h0
      go_simp
      try with_reducible rfl
    try simp only [Act.put, List.getElem_toArray, List.getElem_cons_zero, List.getElem_cons_succ, List.setIfInBounds_toArray, List.set_cons_zero, List.set_cons_succ]
    refine AnyG.take 12 (v := ?vv73) rfl (by kernel_rfl) (by kernel_rfl) (by kernel_rfl) (by kernel_rfl) (fun _ _ _ h => h) hS ?hy73 (by rfl) ?rest73
    case hy73 =>
      intro w0 h0
      go_simp
      try with_reducible rfl
    try simp only [Act.put, List.getElem_toArray, List.getElem_cons_zero, List.getElem_cons_succ, List.setIfInBounds_toArray, List.set_cons_zero, List.set_cons_succ]
    refine AnyG.take 13 (v := ?vv74) rfl (by kernel_rfl) (by kernel_rfl) (by kernel_rfl) (by kernel_rfl) (fun _ _ _ h => h) hS ?hy74 (by rfl) ?rest74
    case hy74 =>
      intro w0 h0
      have o0 := h0.1.cell 0 rfl
      go_simp
      try with_reducible rfl
    try simp only [Act.put, List.getElem_toArray, List.getElem_cons_zero, List.getElem_cons_succ, List.setIfInBounds_toArray, List.set_cons_zero, List.set_cons_succ]
    refine AnyG.take 14 (v := ?vv75) rfl (by kernel_rfl) (by kernel_rfl) (by kernel_rfl) (by kernel_rfl) (fun _ _ _ h => h) hS ?hy75 (by rfl) ?rest75
    case hy75 =>
      intro w0 h0
      go_simp
      try with_reducible rfl
    try simp only [Act.put, List.getElem_toArray, List.getElem_cons_zero, List.getElem_cons_succ, List.setIfInBounds_toArray, List.set_cons_zero, List.set_cons_succ]
    refine AnyG.take 15 (v := ?vv76) rfl (by kernel_rfl) (by kernel_rfl) (by kernel_rfl) (by kernel_rfl) (fun _ _ _ h => h) hS ?hy76 (by rfl) ?rest76
    case hy76 =>
      intro w0 h0
      have c0 := h0.2.1.cell 0 rfl
      have c1 := h0.2.1.cell 1 rfl
      go_simp
      try with_reducible rfl
    try simp only [Act.put, List.getElem_toArray, List.getElem_cons_zero, List.getElem_cons_succ, List.setIfInBounds_toArray, List.set_cons_zero, List.set_cons_succ]
    refine AnyG.take 16 (v := ?vv77) rfl (by kernel_rfl) (by kernel_rfl) (by kernel_rfl) (by kernel_rfl) (fun _ _ _ h => h) hS ?hy77 (by rfl) ?rest77
    case hy77 =>
      intro w0 h0
      go_simp
      try with_reducible rfl
    try simp only [Act.put, List.getElem_toArray, List.getElem_cons_zero, List.getElem_cons_succ, List.setIfInBounds_toArray, List.set_cons_zero, List.set_cons_succ]
    refine AnyG.take 17 (v := ?vv78) rfl (by kernel_rfl) (by kernel_rfl) (by kernel_rfl) (by kernel_rfl) (fun _ _ _ h => h) hS ?hy78 (by rfl) ?rest78
    case hy78 =>
      intro w0 h0
      go_simp
      try with_reducible rfl
    try simp only [Act.put, List.getElem_toArray, List.getElem_cons_zero, List.getElem_cons_succ, List.setIfInBounds_toArray, List.set_cons_zero, List.set_cons_succ]
    refine AnyG.take 18 (v := ?vv79) rfl (by kernel_rfl) (by kernel_rfl) (by kernel_rfl) (by kernel_rfl) (fun _ _ _ h => h) hS ?hy79 (by rfl) ?rest79
    case hy79 =>
      intro w0 h0
      go_simp
      try with_reducible rfl
    try simp only [Act.put, List.getElem_toArray, List.getElem_cons_zero, List.getElem_cons_succ, List.setIfInBounds_toArray, List.set_cons_zero, List.set_cons_succ]
    refine AnyG.take 19 (v := .agg [.int .i64 (m : Int), .int .i64 (c : Int), .int .i64 k7, .int .i64 V7, .int .i64 LM7, .slice oo xs7.length oc, .int .i64 H7, .slice po ys7.length pc].toArray) rfl (by kernel_rfl) (by kernel_rfl) (by kernel_rfl) (by kernel_rfl) (fun _ _ _ h => h) hS ?hy80 (by rfl) ?rest80
    case hy80 =>
      intro w0 h0
      exact run_load_obj g [.int .i64 (m : Int), .int .i64 (c : Int), .int .i64 k7, .int .i64 V7, .int .i64 LM7, .slice oo xs7.length oc, .int .i64 H7, .slice po ys7.length pc] rfl h0.1 Tryd.underlying30 HL.out
    try simp only [Act.put, List.getElem_toArray, List.getElem_cons_zero, List.getElem_cons_succ, List.setIfInBounds_toArray, List.set_cons_zero, List.set_cons_succ]
    refine AnyG.take 21 (v := ?vv81) rfl (by kernel_rfl) (by kernel_rfl) (by kernel_rfl) (by kernel_rfl) (fun _ _ _ h => h) hS ?hy81 (by rfl) ?rest81
    case hy81 =>
      intro w0 h0
      go_simp
      try with_reducible rfl
    try simp only [Act.put, List.getElem_toArray, List.getElem_cons_zero, List.getElem_cons_succ, List.setIfInBounds_toArray, List.set_cons_zero, List.set_cons_succ]
    refine AnyG.take 22 (v := ?vv82) rfl (by kernel_rfl) (by kernel_rfl) (by kernel_rfl) (by kernel_rfl) (fun _ _ _ h => h) hS ?hy82 (by rfl) ?rest82
    case hy82 =>
      intro w0 h0
      have c0 := h0.2.1.cell 0 rfl
      have c1 := h0.2.1.cell 1 rfl
      go_simp
      try with_reducible rfl
    try simp only [Act.put, List.getElem_toArray, List.getElem_cons_zero, List.getElem_cons_succ, List.setIfInBounds_toArray, List.set_cons_zero, List.set_cons_succ]
    refine AnyG.take 23 (v := ?vv83) rfl (by kernel_rfl) (by kernel_rfl) (by kernel_rfl) (by kernel_rfl) (fun _ _ _ h => h) hS ?hy83 (by rfl) ?rest83
    case hy83 =>
      intro w0 h0
      go_simp
      try with_reducible rfl
    try simp only [Act.put, List.getElem_toArray, List.getElem_cons_zero, List.getElem_cons_succ, List.setIfInBounds_toArray, List.set_cons_zero, List.set_cons_succ]
    refine AnyG.take 24 (v := ?vv84) rfl (by kernel_rfl) (by kernel_rfl) (by kernel_rfl) (by kernel_rfl) (fun _ _ _ h => h) hS ?hy84 (by rfl) ?rest84
    case hy84 =>
      intro w0 h0
      go_simp
      try with_reducible rfl
    try simp only [Act.put, List.getElem_toArray, List.getElem_cons_zero, List.getElem_cons_succ, List.setIfInBounds_toArray, List.set_cons_zero, List.set_cons_succ]
    refine AnyG.one 20 (by kernel_rfl) rfl ?_
    intro K hK
    go_simp
    refine (K9.out _ _ hS.2.2.1).mono ?_
    rintro e wb ⟨rfl, hb⟩
    replace hS := And.intro (hS.1.kept hb) (And.intro (hS.2.1.kept hb) (And.intro (hS.2.2.1.keep hb) (hS.2.2.2.trans (hb.mono hS.2.2.2.size))))
    clear hb
    refine hK.out _ _ (fun _ => hS) ?_
    clear hK K
    try simp only [Act.put, List.getElem_toArray, List.getElem_cons_zero, List.getElem_cons_succ, List.setIfInBounds_toArray, List.set_cons_zero, List.set_cons_succ]
    refine AnyG.take 25 (v := ?vv85) rfl (by kernel_rfl) (by kernel_rfl) (by kernel_rfl) (by kernel_rfl) (fun _ _ _ h => h) hS ?hy85 (by rfl) ?rest85
    case hy85 =>
      intro w0 h0
      go_simp
      try with_reducible rfl
    try simp only [Act.put, List.getElem_toArray, List.getElem_cons_zero, List.getElem_cons_succ, List.setIfInBounds_toArray, List.set_cons_zero, List.set_cons_succ]
    refine AnyG.take 26 (v := ?vv86) rfl (by kernel_rfl) (by kernel_rfl) (by kernel_rfl) (by kernel_rfl) (fun _ _ _ h => h) hS ?hy86 (by rfl) ?rest86
    case hy86 =>
      intro w0 h0
      go_simp
      try with_reducible rfl
    try simp only [Act.put, List.getElem_toArray, List.getElem_cons_zero, List.getElem_cons_succ, List.setIfInBounds_toArray, List.set_cons_zero, List.set_cons_succ]
    refine AnyG.take 27 (v := ?vv87) rfl (by kernel_rfl) (by kernel_rfl) (by kernel_rfl) (by kernel_rfl) (fun _ _ _ h => h) hS ?hy87 (by rfl) ?rest87
    case hy87 =>
      intro w0 h0
      go_simp
      try with_reducible rfl
    try simp only [Act.put, List.getElem_toArray, List.getElem_cons_zero, List.getElem_cons_succ, List.setIfInBounds_toArray, List.set_cons_zero, List.set_cons_succ]
    refine AnyG.take 28 (v := ?vv88) rfl (by kernel_rfl) (by kernel_rfl) (by kernel_rfl) (by kernel_rfl) (fun _ _ _ h => h) hS ?hy88 (by rfl) ?rest88
    case hy88 =>
      intro w0 h0
      go_simp
      try with_reducible rfl
    try simp only [Act.put, List.getElem_toArray, List.getElem_cons_zero, List.getElem_cons_succ, List.setIfInBounds_toArray, List.set_cons_zero, List.set_cons_succ]
    refine AnyG.take 29 (v := ?vv89) rfl (by kernel_rfl) (by kernel_rfl) (by kernel_rfl) (by kernel_rfl) (fun _ _ _ h => h) hS ?hy89 (by rfl) ?rest89
    case hy89 =>
      intro w0 h0
      go_simp
      try with_reducible rfl
    try simp only [Act.put, List.getElem_toArray, List.getElem_cons_zero, List.getElem_cons_succ, List.setIfInBounds_toArray, List.set_cons_zero, List.set_cons_succ]
    refine AnyG.take 30 (v := ?vv90) rfl (by kernel_rfl) (by kernel_rfl) (by kernel_rfl) (by kernel_rfl) (fun _ _ _ h => h) hS ?hy90 (by rfl) ?rest90
    case hy90 =>
      intro w0 h0
      have o6 := h0.1.cell 6 rfl
      go_simp
      try with_reducible rfl
    try simp only [Act.put, List.getElem_toArray, List.getElem_cons_zero, List.getElem_cons_succ, List.setIfInBounds_toArray, List.set_cons_zero, List.set_cons_succ]
    refine AnyG.take 31 (v := ?vv91) rfl (by kernel_rfl) (by kernel_rfl) (by kernel_rfl) (by kernel_rfl) (fun _ _ _ h => h) hS ?hy91 (by rfl) ?rest91
    case hy91 =>
      intro w0 h0
      go_simp
      try with_reducible rfl
    try simp only [Act.put, List.getElem_toArray, List.getElem_cons_zero, List.getElem_cons_succ, List.setIfInBounds_toArray, List.set_cons_zero, List.set_cons_succ]
    refine AnyG.take 32 (v := ?vv92) rfl (by kernel_rfl) (by kernel_rfl) (by kernel_rfl) (by kernel_rfl) (fun _ _ _ h => h) hS ?hy92 (by rfl) ?rest92
    case hy92 =>
      intro w0 h0
      have o1 := h0.1.cell 1 rfl
      go_simp
      try with_reducible rfl
    try simp only [Act.put, List.getElem_toArray, List.getElem_cons_zero, List.getElem_cons_succ, List.setIfInBounds_toArray, List.set_cons_zero, List.set_cons_succ]
    refine AnyG.take 33 (v := ?vv93) rfl (by kernel_rfl) (by kernel_rfl) (by kernel_rfl) (by kernel_rfl) (fun _ _ _ h => h) hS ?hy93 (by rfl) ?rest93
    case hy93 =>
      intro w0 h0
      go_simp
      try with_reducible rfl
    try simp only [Act.put, List.getElem_toArray, List.getElem_cons_zero, List.getElem_cons_succ, List.setIfInBounds_toArray, List.set_cons_zero, List.set_cons_succ]
    refine AnyG.take 34 (v := ?vv94) rfl (by kernel_rfl) (by kernel_rfl) (by kernel_rfl) (by kernel_rfl) (fun _ _ _ h => h) hS ?hy94 (by rfl) ?rest94
    case hy94 =>
      intro w0 h0
      go_simp
      try with_reducible rfl
    try simp only [Act.put, List.getElem_toArray, List.getElem_cons_zero, List.getElem_cons_succ, List.setIfInBounds_toArray, List.set_cons_zero, List.set_cons_succ]
    refine AnyG.take 35 (v := ?vv95) rfl (by kernel_rfl) (by kernel_rfl) (by kernel_rfl) (by kernel_rfl) (fun _ _ _ h => h) hS ?hy95 (by rfl) ?rest95
    case hy95 =>
      intro w0 h0
      go_simp
      try with_reducible rfl
    try simp only [Act.put, List.getElem_toArray, List.getElem_cons_zero, List.getElem_cons_succ, List.setIfInBounds_toArray, List.set_cons_zero, List.set_cons_succ]
    refine AnyG.take 36 (v := ?vv96) rfl (by kernel_rfl) (by kernel_rfl) (by kernel_rfl) (by kernel_rfl) (fun _ _ _ h => h) hS ?hy96 (by rfl) ?rest96
    case hy96 =>
      intro w0 h0
      go_simp
      try with_reducible rfl
    try simp only [Act.put, List.getElem_toArray, List.getElem_cons_zero, List.getElem_cons_succ, List.setIfInBounds_toArray, List.set_cons_zero, List.set_cons_succ]
    refine AnyG.one 37 (by kernel_rfl) rfl ?_
    intro K hK
    go_simp
    refine (heads_c _).mono ?_
    rintro e wc ⟨rfl, hb⟩
    replace hS := And.intro (hS.1.kept hb) (And.intro (hS.2.1.kept hb) (And.intro (hS.2.2.1.keep hb) (hS.2.2.2.trans (hb.mono hS.2.2.2.size))))
    clear hb
    refine hK.out _ _ (fun _ => hS) ?_
    clear hK K
    try simp only [Act.put, List.getElem_toArray, List.getElem_cons_zero, List.getElem_cons_succ, List.setIfInBounds_toArray, List.set_cons_zero, List.set_cons_succ]
    refine AnyG.take 38 (v := ?vv97) rfl (by kernel_rfl) (by kernel_rfl) (by kernel_rfl) (by kernel_rfl) (fun _ _ _ h => h) hS ?hy97 (by rfl) ?rest97
    case hy97 =>
      intro w0 h0
      go_simp
      try with_reducible rfl
    try simp only [Act.put, List.getElem_toArray, List.getElem_cons_zero, List.getElem_cons_succ, List.setIfInBounds_toArray, List.set_cons_zero, List.set_cons_succ]
    refine AnyG.take 39 (v := ?vv98) rfl (by kernel_rfl) (by kernel_rfl) (by kernel_rfl) (by kernel_rfl) (fun _ _ _ h => h) hS ?hy98 (by rfl) ?rest98
    case hy98 =>
      intro w0 h0
      go_simp
      try with_reducible rfl
    try simp only [Act.put, List.getElem_toArray, List.getElem_cons_zero, List.getElem_cons_succ, List.setIfInBounds_toArray, List.set_cons_zero, List.set_cons_succ]
    refine AnyG.done (by kernel_rfl) ?_ _
    obtain ⟨hB, B0, hP, hw⟩ := hS
    clear hB B0 hP
    go_wp2
    go_ret
    exact ⟨rfl, hw⟩

theorem door_met (os : Os) (args : Array Value) : laidMetH Tryd.prog [("errors.errorType", Rows.laid_errors_errorType)] ((World.doorLaid Tryd.prog 400 os).forCall (fun _ _ => 0) ⟨#[], args, []⟩).memory :=
  laidMetH_of_parts (laidMet_nil _ _) (by kernel_rfl)

theorem lifted (os : Os) (started : os.Started) (H : Type) (enc : TypeId × Value → H) :
    ReturnsInHanded {} Tryd.checked os 4 .any (fun w args => (Rows.fanoSizesSpec.pre enc Tryd.prog Tryd.f4 [] false w args ∧ laidMetH Tryd.prog [("errors.errorType", Rows.laid_errors_errorType)] w) ∧ sizedMet enc Tryd.prog Tryd.f4 (OpenSpec.ofChange Rows.fanoSizesSpec) false w args)
      (Rows.fanoSizesSpec.post enc Tryd.prog Tryd.f4 false true false false) := by
  refine returnsInHanded_of_change_and (C := Tryd.checked) (X := fun w _ => laidMetH Tryd.prog [("errors.errorType", Rows.laid_errors_errorType)] w) (fun _ _ _ hh h => h.of_heap hh) own started (by kernel_rfl) Tryd.func4
    (ChangeSpec.witness_shaped (enc := enc) (C := Tryd.checked) (os := os) (X := fun w _ => laidMetH Tryd.prog [("errors.errorType", Rows.laid_errors_errorType)] w) false (World.doorLaid Tryd.prog 400 os) #[.agg #[.int .i64 0, .slice none 0 0]] 8 rfl (World.shaped_of_RefB (by kernel_rfl) (by kernel_rfl)) (by kernel_rfl) (by kernel_rfl) (by kernel_rfl) (door_met os _)) ?_
  intro W base args ds gs before hval0 hW _ _ hL _
  have hval : ∀ (j : Nat) t v, Tryd.f4.params[j]? = some t → args[j]? = some v → Value.okWide Tryd.prog W .any base t v := hval0
  have hW' := hW
  obtain ⟨p, q, hA0, hV, rfl, hfz, hnd⟩ := hW
  have hA : DataW.TrodAll enc Tryd.prog W 0 (fun _ => true) true Tryd.f4.params.toList args.toList ds p := hA0
  rw [Tryd.params4] at hA hval
  obtain ⟨v0, vs0, d0, ds0, p0, q0, hargs, rfl, rfl, h0, r0⟩ := trodAll_cons hA
  obtain ⟨rfl, rfl, rfl⟩ := trodAll_nil r0
  obtain rfl : args = #[v0] := by cases args; simp_all
  obtain ⟨rfl, rfl⟩ := trodVars_none hV
  have k0 := h0
  have lt0 : ∀ x ∈ p0, x.block < W.heap.size := by obtain ⟨m, hm⟩ := k0; exact DataW.trod_lt m _ _ _ hm
  obtain ⟨Nb, ab, xb, cb, rfl, bb1, bb2, bb3, bb4⟩ := open_bits (hval 0 24 v0 rfl rfl) h0
  clear hA0 hval0
  refine (walk W Nb ab xb cb bb1 bb2 bb3 bb4).mono fun e W' ⟨he, bel⟩ => ?_
  subst he
  exact ⟨_, rfl, _, _, _, [], _, [], hW', trodAll_mk1 (shut_bool Tryd.underlying4 _), (trodAll_cons_mk (Below.trod laidOut (by kernel_rfl) (of_decide_eq_true (by kernel_rfl)) k0 bel lt0) trodAll_mk0), rfl, bel.frame _, fun h => by cases h⟩

theorem over : Rows.fanoSizesRow.holds Tryd.pinned (OpenSpec.ofChange Rows.fanoSizesSpec) :=
  OpenClaim.holds_of_wide 4 Tryd.f4 rfl rfl rfl rfl rfl rfl rfl ⟨rfl, rfl, rfl, rfl, rfl⟩ rfl rfl rfl rfl rfl (by kernel_rfl) Tryd.func4 (by kernel_rfl)
    (of_decide_eq_true (by kernel_rfl)) (by unfold Func.isWrapper; first | (rw [if_pos (by decide +kernel)]; kernel_rfl) | (rw [if_neg (by decide +kernel)]; exact ⟨rfl, rfl⟩))
    (fun os started H enc _ => lifted os started H enc)

theorem proved : Rows.FanoSizesCardSaid :=
  Claim7.holds_tied_plain_at .later [] [.handle] true (true, "3a222dbbe02b21a97eb75f2888ab3fae0b7ef26e91ab02ee551924d56334078e") true
    over (fun _ h => by cases h) (by kernel_rfl) (fun _ h => by cases h) fanoSizes_row_tie rfl ⟨rfl, rfl⟩ (by kernel_rfl) rfl
    (fun f fn hf hfn => by
      obtain rfl : f = 4 := Option.some.inj ((show Tryd.prog.funcNamed "haystack/haystacklaw09.FanoSizes" = some 4 by kernel_rfl).symm.trans hf) |>.symm
      obtain rfl : fn = Tryd.f4 := (Option.some.inj (Tryd.func4.symm.trans hfn)).symm
      exact ⟨by kernel_rfl, fun j t ht => by
        rw [Tryd.params4] at ht
        have hm : t ∈ [24] := by simpa using Array.mem_of_getElem? ht
        have hall : ([24].all fun u => !Tryd.prog.wantsStandIn u) = true := by kernel_rfl
        exact (show Tryd.prog.wantsStandIn t = false by simpa using List.all_eq_true.1 hall t hm)⟩)
    (by kernel_rfl)
end Go.Proofs.YtjkihmjbhiiknaaDoor.fanoSizes
namespace Go.Proofs.YtjkihmjbhiiknaaDoor
theorem fanoSizes_holds : Rows.FanoSizesCardSaid := fanoSizes.proved
#print axioms fanoSizes_holds
end Go.Proofs.YtjkihmjbhiiknaaDoor
