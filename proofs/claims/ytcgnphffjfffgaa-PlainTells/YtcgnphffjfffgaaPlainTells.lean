/-
  PlainTells: what a row with counts tells is what the document says, right or not.
-/
import Derived.Test.YtcgnphffjfffgaaPh
import Derived.Test.YtcgnphffjfffgaaPh
import Derived.ChangeOld
namespace Go.Proofs.Ytcgnphffjfffgaa.plainTells
open Go.ChangeShapes Go.WideShapes Go.ChangeAt Go.RowKit Num Bit
set_option linter.unusedVariables false
set_option linter.unusedSimpArgs false
set_option maxRecDepth 100000


set_option maxHeartbeats 8000000 in
theorem walk (w : World) (Nx : Int) (ax : Option Addr) (xx : List Nat) (cx : Nat) (sx : Option Addr) (ux : List Int) (dx : Nat) (tx : Option Addr) (vx : List Int) (ex : Nat) (Px : PlArg w Nx ax xx cx sx ux dx tx vx ex) (b : Bool) (i : Int) (hi : -9223372036854775808 ≤ i ∧ i ≤ 9223372036854775807) :
    Calls Try.prog 5 #[.agg #[.int .i64 Nx, .slice ax xx.length cx, .slice sx ux.length dx, .slice tx vx.length ex], .bool b, .int .i64 i] w fun e w' => e = .returned (.bool true) ∧ Below w.heap.size w w' := by
  have SMA : Hid (∀ w0 : World, Calls Try.prog 16 #[.agg #[.int .i64 Nx, .slice ax xx.length cx, .slice sx ux.length dx, .slice tx vx.length ex]] w0 fun e w' => e = .returned (.bool (decide (Nx ≤ 3000) && (decide ((xx.length : Int) ≤ 3000) && (decide ((ux.length : Int) ≤ 3000) && decide ((vx.length : Int) ≤ 3000))))) ∧ Below w0.heap.size w0 w') := fun w0 => small_p Nx ax xx.length cx sx ux.length dx tx vx.length ex w0
  cases hs : (decide (Nx ≤ 3000) && (decide ((xx.length : Int) ≤ 3000) && (decide ((ux.length : Int) ≤ 3000) && decide ((vx.length : Int) ≤ 3000)))) with
  | false =>
    rw [hs] at SMA
    clear hs
    go_enter Try.func5, Try.ntmps5
    go_wp2_with fail
    refine (SMA.out _).mono ?_
    rintro e w1 ⟨rfl, hb⟩
    have hw := (below_alloc w _).trans (hb.mono (by simp))
    clear hb
    go_wp2_with fail
    refine (heads_c _).mono ?_
    rintro e w9 ⟨rfl, hb⟩
    replace hw := hw.trans (hb.mono hw.size)
    go_wp2
    go_ret
    exact ⟨rfl, hw⟩
  | true =>
    rw [hs] at SMA
    simp only [Bool.and_eq_true, decide_eq_true_eq] at hs
    have hP0 := Px.plin (by omega) (by omega) (by omega)
    clear hs Px
    have A1 : Hid (∀ w0, PlIn w0 Nx ax xx cx sx ux dx tx vx ex → Calls Try.prog 11 #[.agg #[.int .i64 Nx, .slice ax xx.length cx, .slice sx ux.length dx, .slice tx vx.length ex], .int .i64 i] w0 fun e w' => e = .returned (.tuple #[.bool (paB Nx xx ux vx i), .int .i64 (paE Nx xx ux vx i)]) ∧ Below w0.heap.size w0 w') := fun w0 h => access_p Nx ax xx cx sx ux dx tx vx ex i w0 h hi
    have A2 : Hid (∀ w0, PlIn w0 Nx ax xx cx sx ux dx tx vx ex → Calls Try.prog 17 #[.agg #[.int .i64 Nx, .slice ax xx.length cx, .slice sx ux.length dx, .slice tx vx.length ex], .int .i64 i] w0 fun e w' => e = .returned (.tuple #[.bool (paB Nx xx ux vx i), .int .i64 (paE Nx xx ux vx i)]) ∧ Below w0.heap.size w0 w') := fun w0 h => raccess_c Nx ax xx cx sx ux dx tx vx ex i w0 h.x h.f h.c h.s h.sl h.t h.tl
    have A3 : Hid (∀ w0, PlIn w0 Nx ax xx cx sx ux dx tx vx ex → Calls Try.prog 10 #[.agg #[.int .i64 Nx, .slice ax xx.length cx, .slice sx ux.length dx, .slice tx vx.length ex], .bool b, .int .i64 i] w0 fun e w' => e = .returned (.tuple #[.int .i64 (prN Nx xx ux vx b i), .int .i64 (prE Nx xx ux vx i)]) ∧ Below w0.heap.size w0 w') := fun w0 h => rank_p Nx ax xx cx sx ux dx tx vx ex b i w0 h hi
    have A4 : Hid (∀ w0, PlIn w0 Nx ax xx cx sx ux dx tx vx ex → Calls Try.prog 18 #[.agg #[.int .i64 Nx, .slice ax xx.length cx, .slice sx ux.length dx, .slice tx vx.length ex], .bool b, .int .i64 i] w0 fun e w' => e = .returned (.tuple #[.int .i64 (prN Nx xx ux vx b i), .int .i64 (prE Nx xx ux vx i)]) ∧ Below w0.heap.size w0 w') := fun w0 h => rrank_c Nx ax xx cx sx ux dx tx vx ex b i w0 h.x h.f h.c h.s h.sl h.t h.tl
    have A5 : Hid (∀ w0, PlIn w0 Nx ax xx cx sx ux dx tx vx ex → Calls Try.prog 19 #[.agg #[.int .i64 Nx, .slice ax xx.length cx, .slice sx ux.length dx, .slice tx vx.length ex], .bool b, .int .i64 i] w0 fun e w' => e = .returned (.tuple #[.int .i64 (psX Nx xx ux vx b i), .int .i64 (psE Nx xx ux vx b i)]) ∧ Below w0.heap.size w0 w') := fun w0 h => select_p Nx ax xx cx sx ux dx tx vx ex b i w0 h hi
    have A6 : Hid (∀ w0, PlIn w0 Nx ax xx cx sx ux dx tx vx ex → Calls Try.prog 20 #[.agg #[.int .i64 Nx, .slice ax xx.length cx, .slice sx ux.length dx, .slice tx vx.length ex], .bool b, .int .i64 i] w0 fun e w' => e = .returned (.tuple #[.int .i64 (psX Nx xx ux vx b i), .int .i64 (psE Nx xx ux vx b i)]) ∧ Below w0.heap.size w0 w') := fun w0 h => rselect_c Nx ax xx cx sx ux dx tx vx ex b i w0 h.x h.f h.c h.s h.sl h.t h.tl
    have A7 : Hid (∀ w0, PlIn w0 Nx ax xx cx sx ux dx tx vx ex → Calls Try.prog 21 #[.agg #[.int .i64 Nx, .slice ax xx.length cx, .slice sx ux.length dx, .slice tx vx.length ex]] w0 fun e w' => e = .returned (.bool (pchk Nx xx ux vx)) ∧ Below w0.heap.size w0 w') := fun w0 h => check_p Nx ax xx cx sx ux dx tx vx ex w0 h
    have A8 : Hid (∀ w0, PlIn w0 Nx ax xx cx sx ux dx tx vx ex → Calls Try.prog 22 #[.agg #[.int .i64 Nx, .slice ax xx.length cx, .slice sx ux.length dx, .slice tx vx.length ex]] w0 fun e w' => e = .returned (.bool (pchk Nx xx ux vx)) ∧ Below w0.heap.size w0 w') := fun w0 h => rcheckp_c Nx ax xx cx sx ux dx tx vx ex w0 h.x h.f h.c h.s h.sl h.t h.tl
    have A9 : Hid (∀ w0, PlIn w0 Nx ax xx cx sx ux dx tx vx ex → Calls Try.prog 14 #[.agg #[.int .i64 Nx, .slice ax xx.length cx, .slice sx ux.length dx, .slice tx vx.length ex]] w0 fun e w' => e = .returned (.int .i64 (pzN Nx xx ux vx)) ∧ Below w0.heap.size w0 w') := fun w0 h => size_p Nx ax xx cx sx ux dx tx vx ex w0 h
    have AA : Hid (∀ w0, PlIn w0 Nx ax xx cx sx ux dx tx vx ex → Calls Try.prog 15 #[.agg #[.int .i64 Nx, .slice ax xx.length cx, .slice sx ux.length dx, .slice tx vx.length ex]] w0 fun e w' => e = .returned (.int .i64 (pzN Nx xx ux vx)) ∧ Below w0.heap.size w0 w') := fun w0 h => rsize_c Nx ax xx cx sx ux dx tx vx ex w0 h.x h.f h.c h.s h.sl h.t h.tl
    have AB : Hid (∀ w0, PlIn w0 Nx ax xx cx sx ux dx tx vx ex → Calls Try.prog 24 #[.agg #[.int .i64 Nx, .slice ax xx.length cx, .slice sx ux.length dx, .slice tx vx.length ex]] w0 fun e w' => ∃ bo bc, e = .returned (.agg #[.int .i64 (piN Nx xx ux vx), .slice bo (piX Nx xx ux vx).length bc]) ∧ Wd w' bo (piX Nx xx ux vx) ∧ Below w0.heap.size w0 w') := fun w0 h => by
      refine (bits_p Nx ax xx cx sx ux dx tx vx ex w0 h).mono ?_
      rintro e w' ⟨bo, bc, rfl, h1, h2, hb⟩
      exact ⟨bo, bc, rfl, h1, hb⟩
    have AC : Hid (∀ w0, PlIn w0 Nx ax xx cx sx ux dx tx vx ex → Calls Try.prog 25 #[.agg #[.int .i64 Nx, .slice ax xx.length cx, .slice sx ux.length dx, .slice tx vx.length ex]] w0 fun e w' => ∃ bo bc, e = .returned (.agg #[.int .i64 (piN Nx xx ux vx), .slice bo (piX Nx xx ux vx).length bc]) ∧ Wd w' bo (piX Nx xx ux vx) ∧ Below w0.heap.size w0 w') := fun w0 h => by
      refine (rbits_c Nx ax xx cx sx ux dx tx vx ex w0 h.x h.f h.c h.s h.sl h.t h.tl).mono ?_
      rintro e w' ⟨rfl, hb⟩
      exact ⟨_, _, rfl, pi_wd Nx ux vx (h.x.keep hb), hb⟩
    have lX : (piX Nx xx ux vx).length ≤ 1048576 := by
      unfold piX
      split
      · exact hP0.l
      · simp
    generalize paB Nx xx ux vx i = Z0 at *
    generalize paE Nx xx ux vx i = Z1 at *
    generalize prN Nx xx ux vx b i = Z2 at *
    generalize prE Nx xx ux vx i = Z3 at *
    generalize psX Nx xx ux vx b i = Z4 at *
    generalize psE Nx xx ux vx b i = Z5 at *
    generalize pchk Nx xx ux vx = Z6 at *
    generalize pzN Nx xx ux vx = Z7 at *
    generalize piN Nx xx ux vx = Z8 at *
    generalize piX Nx xx ux vx = Z9 at *
    have SB : Hid (∀ w0 bo bc co cc, Wd w0 bo Z9 → Wd w0 co Z9 → Calls Try.prog 23 #[.agg #[.int .i64 Z8, .slice bo Z9.length bc], .agg #[.int .i64 Z8, .slice co Z9.length cc]] w0 fun e w' => e = .returned (.bool true) ∧ Below w0.heap.size w0 w') := fun w0 bo bc co cc h h2 => by
      have := same_c Z8 bo Z9 bc Z8 co Z9 cc w0 h h2 lX
      simpa using this
    go_enter Try.func5, Try.ntmps5
    go_wp2_with fail
    refine (SMA.out _).mono ?_
    rintro e w1 ⟨rfl, hb⟩
    have hw := (below_alloc w _).trans (hb.mono (by simp))
    have hB := (Cel.new w [.int .i64 Nx, .slice ax xx.length cx, .slice sx ux.length dx, .slice tx vx.length ex] 29).kept hb
    have hP := hP0.keep hw
    clear hb SMA hP0
    have c0 := hB.cell 0 rfl
    have c1 := hB.cell 1 rfl
    have c2 := hB.cell 2 rfl
    have c3 := hB.cell 3 rfl
    go_wp2_with fail
    refine (A1.out _ hP).mono ?_
    rintro e w2 ⟨rfl, hb⟩
    replace hP := hP.keep hb
    replace hB := hB.kept hb
    replace hw := hw.trans (hb.mono hw.size)
    clear hb c0 c1 c2 c3
    have c0 := hB.cell 0 rfl
    have c1 := hB.cell 1 rfl
    have c2 := hB.cell 2 rfl
    have c3 := hB.cell 3 rfl
    go_wp2_with fail
    refine (A2.out _ hP).mono ?_
    rintro e w3 ⟨rfl, hb⟩
    replace hP := hP.keep hb
    replace hB := hB.kept hb
    replace hw := hw.trans (hb.mono hw.size)
    clear hb c0 c1 c2 c3
    have c0 := hB.cell 0 rfl
    have c1 := hB.cell 1 rfl
    have c2 := hB.cell 2 rfl
    have c3 := hB.cell 3 rfl
    go_wp2_with fail
    refine (A3.out _ hP).mono ?_
    rintro e w4 ⟨rfl, hb⟩
    replace hP := hP.keep hb
    replace hB := hB.kept hb
    replace hw := hw.trans (hb.mono hw.size)
    clear hb c0 c1 c2 c3
    have c0 := hB.cell 0 rfl
    have c1 := hB.cell 1 rfl
    have c2 := hB.cell 2 rfl
    have c3 := hB.cell 3 rfl
    go_wp2_with fail
    refine (A4.out _ hP).mono ?_
    rintro e w5 ⟨rfl, hb⟩
    replace hP := hP.keep hb
    replace hB := hB.kept hb
    replace hw := hw.trans (hb.mono hw.size)
    clear hb c0 c1 c2 c3
    have c0 := hB.cell 0 rfl
    have c1 := hB.cell 1 rfl
    have c2 := hB.cell 2 rfl
    have c3 := hB.cell 3 rfl
    go_wp2_with fail
    refine (A5.out _ hP).mono ?_
    rintro e w6 ⟨rfl, hb⟩
    replace hP := hP.keep hb
    replace hB := hB.kept hb
    replace hw := hw.trans (hb.mono hw.size)
    clear hb c0 c1 c2 c3
    have c0 := hB.cell 0 rfl
    have c1 := hB.cell 1 rfl
    have c2 := hB.cell 2 rfl
    have c3 := hB.cell 3 rfl
    go_wp2_with fail
    refine (A6.out _ hP).mono ?_
    rintro e w7 ⟨rfl, hb⟩
    replace hP := hP.keep hb
    replace hB := hB.kept hb
    replace hw := hw.trans (hb.mono hw.size)
    clear hb c0 c1 c2 c3
    have c0 := hB.cell 0 rfl
    have c1 := hB.cell 1 rfl
    have c2 := hB.cell 2 rfl
    have c3 := hB.cell 3 rfl
    go_wp2
    refine region_g [22] (fun w' => Cel w' w.heap.size [.int .i64 Nx, .slice ax xx.length cx, .slice sx ux.length dx, .slice tx vx.length ex] 29 ∧ PlIn w' Nx ax xx cx sx ux dx tx vx ex ∧ Below w.heap.size w w') (by kernel_rfl) ?_
    have bD : ∀ x : World, Below x.heap.size x x.drew := fun x => (Below.refl _ _).drew
    have hS := And.intro (hB.kept (bD _)) (And.intro (hP.keep (bD _)) hw.drew)
    clear hB hP hw bD c0 c1 c2 c3
    refine AnyG.take 0 (v := ?vv15) rfl (by kernel_rfl) (by kernel_rfl) (by kernel_rfl) (by kernel_rfl) (fun _ _ _ h => h) hS ?hy15 (by rfl) ?rest15
    case hy15 =>
      intro w0 h0
      have c0 := h0.1.cell 0 rfl
      have c1 := h0.1.cell 1 rfl
      have c2 := h0.1.cell 2 rfl
      have c3 := h0.1.cell 3 rfl
      go_simp
      try with_reducible rfl
    try simp only [Act.put, List.setIfInBounds_toArray, List.set_cons_zero, List.set_cons_succ]
    refine AnyG.take 2 (v := ?vv16) rfl (by kernel_rfl) (by kernel_rfl) (by kernel_rfl) (by kernel_rfl) (fun _ _ _ h => h) hS ?hy16 (by rfl) ?rest16
    case hy16 =>
      intro w0 h0
      have c0 := h0.1.cell 0 rfl
      have c1 := h0.1.cell 1 rfl
      have c2 := h0.1.cell 2 rfl
      have c3 := h0.1.cell 3 rfl
      go_simp
      try with_reducible rfl
    try simp only [Act.put, List.setIfInBounds_toArray, List.set_cons_zero, List.set_cons_succ]
    refine AnyG.one 1 (by kernel_rfl) rfl ?_
    intro K hK
    go_simp
    refine (A7.out _ hS.2.1).mono ?_
    rintro e wa ⟨rfl, hb⟩
    replace hS := And.intro (hS.1.kept hb) (And.intro (hS.2.1.keep hb) (hS.2.2.trans (hb.mono hS.2.2.size)))
    clear hb
    refine hK.out _ _ (fun _ => hS) ?_
    clear hK K
    try simp only [Act.put, List.setIfInBounds_toArray, List.set_cons_zero, List.set_cons_succ]
    refine AnyG.one 3 (by kernel_rfl) rfl ?_
    intro K hK
    go_simp
    refine (A8.out _ hS.2.1).mono ?_
    rintro e wb ⟨rfl, hb⟩
    replace hS := And.intro (hS.1.kept hb) (And.intro (hS.2.1.keep hb) (hS.2.2.trans (hb.mono hS.2.2.size)))
    clear hb
    refine hK.out _ _ (fun _ => hS) ?_
    clear hK K
    try simp only [Act.put, List.setIfInBounds_toArray, List.set_cons_zero, List.set_cons_succ]
    refine AnyG.take 4 (v := ?vv17) rfl (by kernel_rfl) (by kernel_rfl) (by kernel_rfl) (by kernel_rfl) (fun _ _ _ h => h) hS ?hy17 (by rfl) ?rest17
    case hy17 =>
      intro w0 h0
      go_simp
      try with_reducible rfl
    try simp only [Act.put, List.setIfInBounds_toArray, List.set_cons_zero, List.set_cons_succ]
    refine AnyG.take 5 (v := ?vv18) rfl (by kernel_rfl) (by kernel_rfl) (by kernel_rfl) (by kernel_rfl) (fun _ _ _ h => h) hS ?hy18 (by rfl) ?rest18
    case hy18 =>
      intro w0 h0
      go_simp
      try with_reducible rfl
    try simp only [Act.put, List.setIfInBounds_toArray, List.set_cons_zero, List.set_cons_succ]
    refine AnyG.take 6 (v := ?vv19) rfl (by kernel_rfl) (by kernel_rfl) (by kernel_rfl) (by kernel_rfl) (fun _ _ _ h => h) hS ?hy19 (by rfl) ?rest19
    case hy19 =>
      intro w0 h0
      have c0 := h0.1.cell 0 rfl
      have c1 := h0.1.cell 1 rfl
      have c2 := h0.1.cell 2 rfl
      have c3 := h0.1.cell 3 rfl
      go_simp
      try with_reducible rfl
    try simp only [Act.put, List.setIfInBounds_toArray, List.set_cons_zero, List.set_cons_succ]
    refine AnyG.take 8 (v := ?vv20) rfl (by kernel_rfl) (by kernel_rfl) (by kernel_rfl) (by kernel_rfl) (fun _ _ _ h => h) hS ?hy20 (by rfl) ?rest20
    case hy20 =>
      intro w0 h0
      have c0 := h0.1.cell 0 rfl
      have c1 := h0.1.cell 1 rfl
      have c2 := h0.1.cell 2 rfl
      have c3 := h0.1.cell 3 rfl
      go_simp
      try with_reducible rfl
    try simp only [Act.put, List.setIfInBounds_toArray, List.set_cons_zero, List.set_cons_succ]
    refine AnyG.one 7 (by kernel_rfl) rfl ?_
    intro K hK
    go_simp
    refine (A9.out _ hS.2.1).mono ?_
    rintro e wc ⟨rfl, hb⟩
    replace hS := And.intro (hS.1.kept hb) (And.intro (hS.2.1.keep hb) (hS.2.2.trans (hb.mono hS.2.2.size)))
    clear hb
    refine hK.out _ _ (fun _ => hS) ?_
    clear hK K
    try simp only [Act.put, List.setIfInBounds_toArray, List.set_cons_zero, List.set_cons_succ]
    refine AnyG.one 9 (by kernel_rfl) rfl ?_
    intro K hK
    go_simp
    refine (AA.out _ hS.2.1).mono ?_
    rintro e wd ⟨rfl, hb⟩
    replace hS := And.intro (hS.1.kept hb) (And.intro (hS.2.1.keep hb) (hS.2.2.trans (hb.mono hS.2.2.size)))
    clear hb
    refine hK.out _ _ (fun _ => hS) ?_
    clear hK K
    try simp only [Act.put, List.setIfInBounds_toArray, List.set_cons_zero, List.set_cons_succ]
    refine AnyG.take 10 (v := ?vv21) rfl (by kernel_rfl) (by kernel_rfl) (by kernel_rfl) (by kernel_rfl) (fun _ _ _ h => h) hS ?hy21 (by rfl) ?rest21
    case hy21 =>
      intro w0 h0
      go_simp
      try with_reducible rfl
    try simp only [Act.put, List.setIfInBounds_toArray, List.set_cons_zero, List.set_cons_succ]
    refine AnyG.take 11 (v := ?vv22) rfl (by kernel_rfl) (by kernel_rfl) (by kernel_rfl) (by kernel_rfl) (fun _ _ _ h => h) hS ?hy22 (by rfl) ?rest22
    case hy22 =>
      intro w0 h0
      go_simp
      try with_reducible rfl
    try simp only [Act.put, List.setIfInBounds_toArray, List.set_cons_zero, List.set_cons_succ]
    refine AnyG.take 12 (v := ?vv23) rfl (by kernel_rfl) (by kernel_rfl) (by kernel_rfl) (by kernel_rfl) (fun _ _ _ h => h) hS ?hy23 (by rfl) ?rest23
    case hy23 =>
      intro w0 h0
      go_simp
      try with_reducible rfl
    try simp only [Act.put, List.setIfInBounds_toArray, List.set_cons_zero, List.set_cons_succ]
    refine AnyG.take 13 (v := ?vv24) rfl (by kernel_rfl) (by kernel_rfl) (by kernel_rfl) (by kernel_rfl) (fun _ _ _ h => h) hS ?hy24 (by rfl) ?rest24
    case hy24 =>
      intro w0 h0
      have c0 := h0.1.cell 0 rfl
      have c1 := h0.1.cell 1 rfl
      have c2 := h0.1.cell 2 rfl
      have c3 := h0.1.cell 3 rfl
      go_simp
      try with_reducible rfl
    try simp only [Act.put, List.setIfInBounds_toArray, List.set_cons_zero, List.set_cons_succ]
    refine AnyG.take 15 (v := ?vv25) rfl (by kernel_rfl) (by kernel_rfl) (by kernel_rfl) (by kernel_rfl) (fun _ _ _ h => h) hS ?hy25 (by rfl) ?rest25
    case hy25 =>
      intro w0 h0
      have c0 := h0.1.cell 0 rfl
      have c1 := h0.1.cell 1 rfl
      have c2 := h0.1.cell 2 rfl
      have c3 := h0.1.cell 3 rfl
      go_simp
      try with_reducible rfl
    try simp only [Act.put, List.setIfInBounds_toArray, List.set_cons_zero, List.set_cons_succ]
    refine AnyG.one 14 (by kernel_rfl) rfl ?_
    intro K hK
    go_simp
    refine (AB.out _ hS.2.1).mono ?_
    rintro e wf ⟨bo, bc, rfl, hx1, hb⟩
    replace hS := And.intro (hS.1.kept hb) (And.intro (hS.2.1.keep hb) (hS.2.2.trans (hb.mono hS.2.2.size)))
    clear hb
    refine hK.out _ _ (fun _ => hS) ?_
    clear hK K
    try simp only [Act.put, List.setIfInBounds_toArray, List.set_cons_zero, List.set_cons_succ]
    refine AnyG.one 16 (by kernel_rfl) rfl ?_
    intro K hK
    go_simp
    refine (AC.out _ hS.2.1).mono ?_
    rintro e wg ⟨co, cc, rfl, hx2, hb⟩
    replace hS := And.intro (hS.1.kept hb) (And.intro (hS.2.1.keep hb) (hS.2.2.trans (hb.mono hS.2.2.size)))
    replace hx1 := hx1.keep hb
    clear hb
    refine hK.out _ _ (fun _ => hS) ?_
    clear hK K
    try simp only [Act.put, List.setIfInBounds_toArray, List.set_cons_zero, List.set_cons_succ]
    refine AnyG.one 17 (by kernel_rfl) rfl ?_
    intro K hK
    go_simp
    refine (SB.out _ _ _ _ _ hx1 hx2).mono ?_
    rintro e wh ⟨rfl, hb⟩
    replace hS := And.intro (hS.1.kept hb) (And.intro (hS.2.1.keep hb) (hS.2.2.trans (hb.mono hS.2.2.size)))
    clear hb
    refine hK.out _ _ (fun _ => hS) ?_
    clear hK K
    try simp only [Act.put, List.setIfInBounds_toArray, List.set_cons_zero, List.set_cons_succ]
    refine AnyG.take 18 (v := ?vv26) rfl (by kernel_rfl) (by kernel_rfl) (by kernel_rfl) (by kernel_rfl) (fun _ _ _ h => h) hS ?hy26 (by rfl) ?rest26
    case hy26 =>
      intro w0 h0
      go_simp
      try with_reducible rfl
    try simp only [Act.put, List.setIfInBounds_toArray, List.set_cons_zero, List.set_cons_succ]
    refine AnyG.take 19 (v := ?vv27) rfl (by kernel_rfl) (by kernel_rfl) (by kernel_rfl) (by kernel_rfl) (fun _ _ _ h => h) hS ?hy27 (by rfl) ?rest27
    case hy27 =>
      intro w0 h0
      go_simp
      try with_reducible rfl
    try simp only [Act.put, List.setIfInBounds_toArray, List.set_cons_zero, List.set_cons_succ]
    refine AnyG.one 20 (by kernel_rfl) rfl ?_
    intro K hK
    go_simp
    refine (heads_c _).mono ?_
    rintro e wi ⟨rfl, hb⟩
    replace hS := And.intro (hS.1.kept hb) (And.intro (hS.2.1.keep hb) (hS.2.2.trans (hb.mono hS.2.2.size)))
    clear hb
    refine hK.out _ _ (fun _ => hS) ?_
    clear hK K
    try simp only [Act.put, List.setIfInBounds_toArray, List.set_cons_zero, List.set_cons_succ]
    refine AnyG.take 21 (v := ?vv28) rfl (by kernel_rfl) (by kernel_rfl) (by kernel_rfl) (by kernel_rfl) (fun _ _ _ h => h) hS ?hy28 (by rfl) ?rest28
    case hy28 =>
      intro w0 h0
      go_simp
      try with_reducible rfl
    try simp only [Act.put, List.setIfInBounds_toArray, List.set_cons_zero, List.set_cons_succ]
    refine AnyG.one 22 (by kernel_rfl) rfl ?_
    intro K hK
    go_simp
    refine hK.out _ _ (fun h => absurd (by decide) h) ?_
    clear hK K
    try simp only [Act.put, List.setIfInBounds_toArray, List.set_cons_zero, List.set_cons_succ]
    refine AnyG.done (by kernel_rfl) ?_ _
    go_wp2
    go_ret
    exact ⟨rfl, hS.2.2⟩

theorem lifted (os : Os) (started : os.Started) (H : Type) (enc : TypeId × Value → H) :
    ReturnsInHanded {} Try.checked os 5 .any (Rows.plainTellsSpec.pre6 enc Try.prog Try.f5 Rows.plainTellsRow.domain false) (Rows.plainTellsSpec.post enc Try.prog Try.f5 false true false false) := by
  refine returnsInHanded_of_change (C := Try.checked) own started (by kernel_rfl) Try.func5
    (ChangeSpec.witness6 (enc := enc) (C := Try.checked) false ⟨#[], #[.agg #[.int .i64 0, .slice none 0 0, .slice none 0 0, .slice none 0 0], .bool false, .int .i64 0], []⟩ 8 (by kernel_rfl) (by kernel_rfl) (by kernel_rfl) (by kernel_rfl)) ?_
  intro W base args ds gs before hval0 hW hcnd _
  have hval : ∀ (j : Nat) t v, Try.f5.params[j]? = some t → args[j]? = some v → Value.okWide Try.prog W .any base t v := hval0
  have hW' := hW
  obtain ⟨p, q, hA0, hV, rfl, hfz, hnd⟩ := hW
  have hA : DataW.TrodAll enc Try.prog W 0 (fun _ => true) true Try.f5.params.toList args.toList ds p := hA0
  rw [Try.params5] at hA hval
  obtain ⟨v0, vs0, d0, ds0, p0, q0, hargs, rfl, rfl, h0, r0⟩ := trodAll_cons hA
  obtain ⟨v1, vs1, d1, ds1, p1, q1, rfl, rfl, rfl, h1, r1⟩ := trodAll_cons r0
  obtain ⟨v2, vs2, d2, ds2, p2, q2, rfl, rfl, rfl, h2, r2⟩ := trodAll_cons r1
  obtain ⟨rfl, rfl, rfl⟩ := trodAll_nil r2
  obtain rfl : args = #[v0, v1, v2] := by cases args; simp_all
  obtain ⟨rfl, rfl⟩ := trodVars_none hV
  have k0 := h0
  have lt0 : ∀ x ∈ p0, x.block < W.heap.size := by obtain ⟨m, hm⟩ := k0; exact DataW.trod_lt m _ _ _ hm
  obtain ⟨Nx, ax, xx, cx, sx, ux, dx, tx, vx, ex, rfl, bx1, bx2, bx3, bx4, bx5, bx6, bx7, bx8, bx9, bxz⟩ := open_plain (hval 0 29 v0 rfl rfl) h0
  obtain ⟨b, rfl, rfl, rfl⟩ := open_bool Try.underlying4 (hval 1 4 v1 rfl rfl) h1
  obtain ⟨i, rfl, rfl, rfl, w2⟩ := open_int Try.underlying3 (hval 2 3 v2 rfl rfl) h2
  clear hA0 hval0
  refine (walk W Nx ax xx cx sx ux dx tx vx ex ⟨bx1, bx2, bx3, bx4, bx5, bx6, bx7, bx8, bx9, bxz⟩ b i (i64_wf _ w2)).mono fun e W' ⟨he, bel⟩ => ?_
  subst he
  exact ⟨_, rfl, _, _, _, [], _, [], hW', trodAll_mk1 (shut_bool Try.underlying4 _), (trodAll_cons_mk (Below.trod laidOut (by kernel_rfl) (of_decide_eq_true (by kernel_rfl)) k0 bel lt0) (trodAll_cons_mk (shut_bool Try.underlying4 b) (trodAll_cons_mk (shut_int Try.underlying3 w2) trodAll_mk0))), rfl, bel.frame _, fun h => by cases h⟩

theorem over : Rows.plainTellsRow.holds Try.pinned (OpenSpec.ofChange Rows.plainTellsSpec) :=
  OpenClaim.holds_of_wide 5 Try.f5 rfl rfl rfl rfl rfl rfl rfl ⟨rfl, rfl, rfl, rfl, rfl⟩ rfl rfl rfl rfl rfl (by kernel_rfl) Try.func5 (by kernel_rfl)
    (of_decide_eq_true (by kernel_rfl)) (by unfold Func.isWrapper; first | (rw [if_pos (by decide +kernel)]; kernel_rfl) | (rw [if_neg (by decide +kernel)]; exact ⟨rfl, rfl⟩))
    (fun os started H enc _ => lifted os started H enc)

theorem proved : Rows.PlainTellsSaid := over
end Go.Proofs.Ytcgnphffjfffgaa.plainTells
namespace Go.Proofs.Ytcgnphffjfffgaa
theorem plainTells_holds : Rows.PlainTellsSaid := plainTells.proved
#print axioms plainTells_holds
end Go.Proofs.Ytcgnphffjfffgaa
