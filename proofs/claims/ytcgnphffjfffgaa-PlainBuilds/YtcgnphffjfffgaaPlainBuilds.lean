/-
  PlainBuilds: what is built of every row is what the document says.
-/
import Derived.Test.YtcgnphffjfffgaaPh
import Derived.Test.YtcgnphffjfffgaaPh
import Derived.ChangeOld
namespace Go.Proofs.Ytcgnphffjfffgaa.plainBuilds
open Go.ChangeShapes Go.WideShapes Go.ChangeAt Go.RowKit Num Bit
set_option linter.unusedVariables false
set_option linter.unusedSimpArgs false
set_option maxRecDepth 100000


set_option maxHeartbeats 4000000 in
theorem walk (w : World) (Nb : Int) (ab : Option Addr) (xb : List Nat) (cb : Nat) (hbN : -9223372036854775808 ≤ Nb ∧ Nb ≤ 9223372036854775807) (Xb : Wd w ab xb) (Fb : Fit xb) (Cb : xb.length ≤ cb) :
    Calls Try.prog 4 #[.agg #[.int .i64 Nb, .slice ab xb.length cb]] w fun e w' => e = .returned (.bool true) ∧ Below w.heap.size w w' := by
  by_cases q1 : 3000 < Nb
  · go_enter Try.func4, Try.ntmps4
    go_wp2_with fail
    refine (heads_c _).mono ?_
    rintro e w9 ⟨rfl, hb⟩
    go_wp2
    go_ret
    exact ⟨rfl, (below_alloc w _).trans (hb.mono (by simp))⟩
  by_cases q2 : (3000 : Int) < (xb.length : Int)
  · go_enter Try.func4, Try.ntmps4
    go_wp2_with fail
    refine (heads_c _).mono ?_
    rintro e w9 ⟨rfl, hb⟩
    go_wp2
    go_ret
    exact ⟨rfl, (below_alloc w _).trans (hb.mono (by simp))⟩
  have hlx : xb.length ≤ 1048576 := by omega
  have H1 : Hid (∀ w0, Below w.heap.size w w0 → Calls Try.prog 9 #[.agg #[.int .i64 Nb, .slice ab xb.length cb]] w0 fun e w' => ∃ bo bc so sc tO tc, e = .returned (.tuple #[.agg #[.int .i64 (pbN Nb xb), .slice bo (pbX Nb xb).length bc, .slice so (pbS Nb xb).length sc, .slice tO (pbT Nb xb).length tc], .int .i64 (pbE Nb xb)]) ∧ PlIn w' (pbN Nb xb) bo (pbX Nb xb) bc so (pbS Nb xb) sc tO (pbT Nb xb) tc ∧ Below w0.heap.size w0 w') := fun w0 h => by
    refine (build_p Nb ab xb cb w0 hbN (Xb.keep h) Fb Cb hlx).mono ?_
    rintro e w' ⟨bo, bc, so, sc, tO, tc, rfl, ho, hb⟩
    exact ⟨bo, bc, so, sc, tO, tc, rfl, ho.plin Nb xb hbN Fb hlx, hb⟩
  have H2 : Hid (∀ w0, Below w.heap.size w w0 → Calls Try.prog 12 #[.agg #[.int .i64 Nb, .slice ab xb.length cb]] w0 fun e w' => ∃ bo bc so sc tO tc, e = .returned (.tuple #[.agg #[.int .i64 (pbN Nb xb), .slice bo (pbX Nb xb).length bc, .slice so (pbS Nb xb).length sc, .slice tO (pbT Nb xb).length tc], .int .i64 (pbE Nb xb)]) ∧ PlIn w' (pbN Nb xb) bo (pbX Nb xb) bc so (pbS Nb xb) sc tO (pbT Nb xb) tc ∧ Below w0.heap.size w0 w') := fun w0 h => by
    refine (rbuild_c Nb ab xb cb w0 (Xb.keep h) Fb Cb).mono ?_
    rintro e w' ⟨bo, bc, so, sc, tO, tc, rfl, ho, hb⟩
    exact ⟨bo, bc, so, sc, tO, tc, rfl, ho.plin Nb xb hbN Fb hlx, hb⟩
  generalize pbN Nb xb = N1 at *
  generalize pbX Nb xb = X1 at *
  generalize pbS Nb xb = S1 at *
  generalize pbT Nb xb = T1 at *
  generalize pbE Nb xb = E1 at *
  have SZ : Hid (∀ w0 b bc s sc t tc, PlIn w0 N1 b X1 bc s S1 sc t T1 tc → Calls Try.prog 14 #[.agg #[.int .i64 N1, .slice b X1.length bc, .slice s S1.length sc, .slice t T1.length tc]] w0 fun e w' => e = .returned (.int .i64 (pzN N1 X1 S1 T1)) ∧ Below w0.heap.size w0 w') := fun w0 b bc s sc t tc h => size_p N1 b X1 bc s S1 sc t T1 tc w0 h
  have RZ : Hid (∀ w0 b bc s sc t tc, PlIn w0 N1 b X1 bc s S1 sc t T1 tc → Calls Try.prog 15 #[.agg #[.int .i64 N1, .slice b X1.length bc, .slice s S1.length sc, .slice t T1.length tc]] w0 fun e w' => e = .returned (.int .i64 (pzN N1 X1 S1 T1)) ∧ Below w0.heap.size w0 w') := fun w0 b bc s sc t tc h => rsize_c N1 b X1 bc s S1 sc t T1 tc w0 h.x h.f h.c h.s h.sl h.t h.tl
  have SM : Hid (∀ w0 b bc s sc t tc b2 bc2 s2 sc2 t2 tc2, PlIn w0 N1 b X1 bc s S1 sc t T1 tc → PlIn w0 N1 b2 X1 bc2 s2 S1 sc2 t2 T1 tc2 → Calls Try.prog 13 #[.agg #[.int .i64 N1, .slice b X1.length bc, .slice s S1.length sc, .slice t T1.length tc], .agg #[.int .i64 N1, .slice b2 X1.length bc2, .slice s2 S1.length sc2, .slice t2 T1.length tc2]] w0 fun e w' => e = .returned (.bool true) ∧ Below w0.heap.size w0 w') := fun w0 b bc s sc t tc b2 bc2 s2 sc2 t2 tc2 h h2 => by
    have := rsame_c N1 b X1 bc s S1 sc t T1 tc N1 b2 X1 bc2 s2 S1 sc2 t2 T1 tc2 w0 h.x h2.x h.l h.s h2.s h.sl h.t h2.t h.tl
    simpa using this
  generalize pzN N1 X1 S1 T1 = Z1 at *
  go_enter Try.func4, Try.ntmps4
  go_wp2_with fail
  refine (H1.out _ (below_alloc w _)).mono ?_
  rintro e w1 ⟨bo, bc, so, sc, tO, tc, rfl, hP1, hb⟩
  have hw1 := (below_alloc w _).trans (hb.mono (by simp))
  have B0 := (Cel.new w [.int .i64 Nb, .slice ab xb.length cb] 24).kept hb
  have bV := below_alloc w1 (.cells #[.int .i64 N1, .slice bo X1.length bc, .slice so S1.length sc, .slice tO T1.length tc] 29)
  have B1 := Cel.new w1 [.int .i64 N1, .slice bo X1.length bc, .slice so S1.length sc, .slice tO T1.length tc] 29
  replace B0 := B0.kept bV
  replace hP1 := hP1.keep bV
  replace hw1 := hw1.trans (bV.mono hw1.size)
  have r0 := B0.cell 0 rfl
  have r1 := B0.cell 1 rfl
  clear hb bV
  go_wp2_with fail
  refine (H2.out _ hw1).mono ?_
  rintro e w2 ⟨bo2, bc2, so2, sc2, to2, tc2, rfl, hP2, hb⟩
  have bV := below_alloc w2 (.cells #[.int .i64 N1, .slice bo2 X1.length bc2, .slice so2 S1.length sc2, .slice to2 T1.length tc2] 29)
  have B2 := Cel.new w2 [.int .i64 N1, .slice bo2 X1.length bc2, .slice so2 S1.length sc2, .slice to2 T1.length tc2] 29
  replace B1 := (B1.kept hb).kept bV
  replace hP1 := (hP1.keep hb).keep bV
  replace hP2 := hP2.keep bV
  replace hw1 := (hw1.trans (hb.mono hw1.size)).trans (bV.mono (Nat.le_trans hw1.size hb.size))
  clear hb bV r0 r1 B0 H1 H2
  go_wp2
  refine region_g [18] (fun w' => Cel w' w1.heap.size [.int .i64 N1, .slice bo X1.length bc, .slice so S1.length sc, .slice tO T1.length tc] 29 ∧ Cel w' w2.heap.size [.int .i64 N1, .slice bo2 X1.length bc2, .slice so2 S1.length sc2, .slice to2 T1.length tc2] 29 ∧ PlIn w' N1 bo X1 bc so S1 sc tO T1 tc ∧ PlIn w' N1 bo2 X1 bc2 so2 S1 sc2 to2 T1 tc2 ∧ Below w.heap.size w w') (by kernel_rfl) ?_
  have bD : ∀ x : World, Below x.heap.size x x.drew := fun x => (Below.refl _ _).drew
  have hS := And.intro (B1.kept (bD _)) (And.intro (B2.kept (bD _)) (And.intro (hP1.keep (bD _)) (And.intro (hP2.keep (bD _)) hw1.drew)))
  clear B1 B2 hP1 hP2 hw1 bD
  refine AnyG.take 0 (v := ?vv1) rfl (by kernel_rfl) (by kernel_rfl) (by kernel_rfl) (by kernel_rfl) (fun _ _ _ h => h) hS ?hy1 (by rfl) ?rest1
  case hy1 =>
    intro w0 h0
    have c0 := h0.1.cell 0 rfl
    have c1 := h0.1.cell 1 rfl
    have c2 := h0.1.cell 2 rfl
    have c3 := h0.1.cell 3 rfl
    go_simp
    try with_reducible rfl
  try simp only [Act.put, List.setIfInBounds_toArray, List.set_cons_zero, List.set_cons_succ]
  refine AnyG.take 1 (v := ?vv2) rfl (by kernel_rfl) (by kernel_rfl) (by kernel_rfl) (by kernel_rfl) (fun _ _ _ h => h) hS ?hy2 (by rfl) ?rest2
  case hy2 =>
    intro w0 h0
    have c0 := h0.2.1.cell 0 rfl
    have c1 := h0.2.1.cell 1 rfl
    have c2 := h0.2.1.cell 2 rfl
    have c3 := h0.2.1.cell 3 rfl
    go_simp
    try with_reducible rfl
  try simp only [Act.put, List.setIfInBounds_toArray, List.set_cons_zero, List.set_cons_succ]
  refine AnyG.one 2 (by kernel_rfl) rfl ?_
  intro K hK
  go_simp
  refine (SM.out _ _ _ _ _ _ _ _ _ _ _ _ _ hS.2.2.1 hS.2.2.2.1).mono ?_
  rintro e w3 ⟨rfl, hb⟩
  replace hS := And.intro (hS.1.kept hb) (And.intro (hS.2.1.kept hb) (And.intro (hS.2.2.1.keep hb) (And.intro (hS.2.2.2.1.keep hb) (hS.2.2.2.2.trans (hb.mono hS.2.2.2.2.size)))))
  clear hb
  refine hK.out _ _ (fun _ => hS) ?_
  clear hK K
  try simp only [Act.put, List.setIfInBounds_toArray, List.set_cons_zero, List.set_cons_succ]
  refine AnyG.take 3 (v := ?vv3) rfl (by kernel_rfl) (by kernel_rfl) (by kernel_rfl) (by kernel_rfl) (fun _ _ _ h => h) hS ?hy3 (by rfl) ?rest3
  case hy3 =>
    intro w0 h0
    go_simp
    try with_reducible rfl
  try simp only [Act.put, List.setIfInBounds_toArray, List.set_cons_zero, List.set_cons_succ]
  refine AnyG.take 4 (v := ?vv4) rfl (by kernel_rfl) (by kernel_rfl) (by kernel_rfl) (by kernel_rfl) (fun _ _ _ h => h) hS ?hy4 (by rfl) ?rest4
  case hy4 =>
    intro w0 h0
    go_simp
    try with_reducible rfl
  try simp only [Act.put, List.setIfInBounds_toArray, List.set_cons_zero, List.set_cons_succ]
  refine AnyG.take 5 (v := ?vv5) rfl (by kernel_rfl) (by kernel_rfl) (by kernel_rfl) (by kernel_rfl) (fun _ _ _ h => h) hS ?hy5 (by rfl) ?rest5
  case hy5 =>
    intro w0 h0
    go_simp
    try with_reducible rfl
  try simp only [Act.put, List.setIfInBounds_toArray, List.set_cons_zero, List.set_cons_succ]
  refine AnyG.take 6 (v := ?vv6) rfl (by kernel_rfl) (by kernel_rfl) (by kernel_rfl) (by kernel_rfl) (fun _ _ _ h => h) hS ?hy6 (by rfl) ?rest6
  case hy6 =>
    intro w0 h0
    go_simp
    try with_reducible rfl
  try simp only [Act.put, List.setIfInBounds_toArray, List.set_cons_zero, List.set_cons_succ]
  refine AnyG.take 7 (v := ?vv7) rfl (by kernel_rfl) (by kernel_rfl) (by kernel_rfl) (by kernel_rfl) (fun _ _ _ h => h) hS ?hy7 (by rfl) ?rest7
  case hy7 =>
    intro w0 h0
    go_simp
    try with_reducible rfl
  try simp only [Act.put, List.setIfInBounds_toArray, List.set_cons_zero, List.set_cons_succ]
  refine AnyG.take 8 (v := ?vv8) rfl (by kernel_rfl) (by kernel_rfl) (by kernel_rfl) (by kernel_rfl) (fun _ _ _ h => h) hS ?hy8 (by rfl) ?rest8
  case hy8 =>
    intro w0 h0
    go_simp
    try with_reducible rfl
  try simp only [Act.put, List.setIfInBounds_toArray, List.set_cons_zero, List.set_cons_succ]
  refine AnyG.take 9 (v := ?vv9) rfl (by kernel_rfl) (by kernel_rfl) (by kernel_rfl) (by kernel_rfl) (fun _ _ _ h => h) hS ?hy9 (by rfl) ?rest9
  case hy9 =>
    intro w0 h0
    have c0 := h0.1.cell 0 rfl
    have c1 := h0.1.cell 1 rfl
    have c2 := h0.1.cell 2 rfl
    have c3 := h0.1.cell 3 rfl
    go_simp
    try with_reducible rfl
  try simp only [Act.put, List.setIfInBounds_toArray, List.set_cons_zero, List.set_cons_succ]
  refine AnyG.take 11 (v := ?vv10) rfl (by kernel_rfl) (by kernel_rfl) (by kernel_rfl) (by kernel_rfl) (fun _ _ _ h => h) hS ?hy10 (by rfl) ?rest10
  case hy10 =>
    intro w0 h0
    have c0 := h0.2.1.cell 0 rfl
    have c1 := h0.2.1.cell 1 rfl
    have c2 := h0.2.1.cell 2 rfl
    have c3 := h0.2.1.cell 3 rfl
    go_simp
    try with_reducible rfl
  try simp only [Act.put, List.setIfInBounds_toArray, List.set_cons_zero, List.set_cons_succ]
  refine AnyG.one 10 (by kernel_rfl) rfl ?_
  intro K hK
  go_simp
  refine (SZ.out _ _ _ _ _ _ _ hS.2.2.1).mono ?_
  rintro e w4 ⟨rfl, hb⟩
  replace hS := And.intro (hS.1.kept hb) (And.intro (hS.2.1.kept hb) (And.intro (hS.2.2.1.keep hb) (And.intro (hS.2.2.2.1.keep hb) (hS.2.2.2.2.trans (hb.mono hS.2.2.2.2.size)))))
  clear hb
  refine hK.out _ _ (fun _ => hS) ?_
  clear hK K
  try simp only [Act.put, List.setIfInBounds_toArray, List.set_cons_zero, List.set_cons_succ]
  refine AnyG.one 12 (by kernel_rfl) rfl ?_
  intro K hK
  go_simp
  refine (RZ.out _ _ _ _ _ _ _ hS.2.2.2.1).mono ?_
  rintro e w5 ⟨rfl, hb⟩
  replace hS := And.intro (hS.1.kept hb) (And.intro (hS.2.1.kept hb) (And.intro (hS.2.2.1.keep hb) (And.intro (hS.2.2.2.1.keep hb) (hS.2.2.2.2.trans (hb.mono hS.2.2.2.2.size)))))
  clear hb
  refine hK.out _ _ (fun _ => hS) ?_
  clear hK K
  try simp only [Act.put, List.setIfInBounds_toArray, List.set_cons_zero, List.set_cons_succ]
  refine AnyG.take 13 (v := ?vv11) rfl (by kernel_rfl) (by kernel_rfl) (by kernel_rfl) (by kernel_rfl) (fun _ _ _ h => h) hS ?hy11 (by rfl) ?rest11
  case hy11 =>
    intro w0 h0
    go_simp
    try with_reducible rfl
  try simp only [Act.put, List.setIfInBounds_toArray, List.set_cons_zero, List.set_cons_succ]
  refine AnyG.take 14 (v := ?vv12) rfl (by kernel_rfl) (by kernel_rfl) (by kernel_rfl) (by kernel_rfl) (fun _ _ _ h => h) hS ?hy12 (by rfl) ?rest12
  case hy12 =>
    intro w0 h0
    go_simp
    try with_reducible rfl
  try simp only [Act.put, List.setIfInBounds_toArray, List.set_cons_zero, List.set_cons_succ]
  refine AnyG.take 15 (v := ?vv13) rfl (by kernel_rfl) (by kernel_rfl) (by kernel_rfl) (by kernel_rfl) (fun _ _ _ h => h) hS ?hy13 (by rfl) ?rest13
  case hy13 =>
    intro w0 h0
    go_simp
    try with_reducible rfl
  try simp only [Act.put, List.setIfInBounds_toArray, List.set_cons_zero, List.set_cons_succ]
  refine AnyG.one 16 (by kernel_rfl) rfl ?_
  intro K hK
  go_simp
  refine (heads_c _).mono ?_
  rintro e w6 ⟨rfl, hb⟩
  replace hS := And.intro (hS.1.kept hb) (And.intro (hS.2.1.kept hb) (And.intro (hS.2.2.1.keep hb) (And.intro (hS.2.2.2.1.keep hb) (hS.2.2.2.2.trans (hb.mono hS.2.2.2.2.size)))))
  clear hb
  refine hK.out _ _ (fun _ => hS) ?_
  clear hK K
  try simp only [Act.put, List.setIfInBounds_toArray, List.set_cons_zero, List.set_cons_succ]
  refine AnyG.take 17 (v := ?vv14) rfl (by kernel_rfl) (by kernel_rfl) (by kernel_rfl) (by kernel_rfl) (fun _ _ _ h => h) hS ?hy14 (by rfl) ?rest14
  case hy14 =>
    intro w0 h0
    go_simp
    try with_reducible rfl
  try simp only [Act.put, List.setIfInBounds_toArray, List.set_cons_zero, List.set_cons_succ]
  refine AnyG.one 18 (by kernel_rfl) rfl ?_
  intro K hK
  go_simp
  refine hK.out _ _ (fun h => absurd (by decide) h) ?_
  clear hK K
  try simp only [Act.put, List.setIfInBounds_toArray, List.set_cons_zero, List.set_cons_succ]
  refine AnyG.done (by kernel_rfl) ?_ _
  go_wp2
  go_ret
  exact ⟨rfl, hS.2.2.2.2⟩

theorem lifted (os : Os) (started : os.Started) (H : Type) (enc : TypeId × Value → H) :
    ReturnsInHanded {} Try.checked os 4 .any (Rows.plainBuildsSpec.pre6 enc Try.prog Try.f4 Rows.plainBuildsRow.domain false) (Rows.plainBuildsSpec.post enc Try.prog Try.f4 false true false false) := by
  refine returnsInHanded_of_change (C := Try.checked) own started (by kernel_rfl) Try.func4
    (ChangeSpec.witness6 (enc := enc) (C := Try.checked) false ⟨#[], #[.agg #[.int .i64 0, .slice none 0 0]], []⟩ 8 (by kernel_rfl) (by kernel_rfl) (by kernel_rfl) (by kernel_rfl)) ?_
  intro W base args ds gs before hval0 hW hcnd _
  have hval : ∀ (j : Nat) t v, Try.f4.params[j]? = some t → args[j]? = some v → Value.okWide Try.prog W .any base t v := hval0
  have hW' := hW
  obtain ⟨p, q, hA0, hV, rfl, hfz, hnd⟩ := hW
  have hA : DataW.TrodAll enc Try.prog W 0 (fun _ => true) true Try.f4.params.toList args.toList ds p := hA0
  rw [Try.params4] at hA hval
  obtain ⟨v0, vs0, d0, ds0, p0, q0, hargs, rfl, rfl, h0, r0⟩ := trodAll_cons hA
  obtain ⟨rfl, rfl, rfl⟩ := trodAll_nil r0
  obtain rfl : args = #[v0] := by cases args; simp_all
  obtain ⟨rfl, rfl⟩ := trodVars_none hV
  have k0 := h0
  have lt0 : ∀ x ∈ p0, x.block < W.heap.size := by obtain ⟨m, hm⟩ := k0; exact DataW.trod_lt m _ _ _ hm
  obtain ⟨Nb, ab, xb, cb, rfl, bb1, bb2, bb3, bb4⟩ := open_bits (hval 0 24 v0 rfl rfl) h0
  clear hA0 hval0
  refine (walk W Nb ab xb cb bb1 bb2 bb3 bb4).mono fun e W' ⟨he, bel⟩ => ?_
  subst he
  exact ⟨_, rfl, _, _, _, [], _, [], hW', trodAll_mk1 (shut_bool Try.underlying4 _), (trodAll_cons_mk (Below.trod laidOut (by kernel_rfl) (of_decide_eq_true (by kernel_rfl)) k0 bel lt0) trodAll_mk0), rfl, bel.frame _, fun h => by cases h⟩

theorem over : Rows.plainBuildsRow.holds Try.pinned (OpenSpec.ofChange Rows.plainBuildsSpec) :=
  OpenClaim.holds_of_wide 4 Try.f4 rfl rfl rfl rfl rfl rfl rfl ⟨rfl, rfl, rfl, rfl, rfl⟩ rfl rfl rfl rfl rfl (by kernel_rfl) Try.func4 (by kernel_rfl)
    (of_decide_eq_true (by kernel_rfl)) (by unfold Func.isWrapper; first | (rw [if_pos (by decide +kernel)]; kernel_rfl) | (rw [if_neg (by decide +kernel)]; exact ⟨rfl, rfl⟩))
    (fun os started H enc _ => lifted os started H enc)

theorem proved : Rows.PlainBuildsSaid := over
end Go.Proofs.Ytcgnphffjfffgaa.plainBuilds
namespace Go.Proofs.Ytcgnphffjfffgaa
theorem plainBuilds_holds : Rows.PlainBuildsSaid := plainBuilds.proved
#print axioms plainBuilds_holds
end Go.Proofs.Ytcgnphffjfffgaa
