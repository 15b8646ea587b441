/-
  The contract of the document's Name.
-/
import Derived.Test.YtadfnllfeoidhaaDoorCg
namespace Go.Proofs.YtadfnllfeoidhaaDoor
open Go.RowKit
set_option linter.unusedVariables false
set_option linter.unusedSimpArgs false
set_option maxRecDepth 100000

section
open Go
variable {P : Program} {ops : Array Oper} {Q : Exit → Act → World → Prop} {md : Region.Mode} {S E : World → Prop}
/-- What holds once is held from there on. -/
theorem AnyG.more : ∀ f l a w, S w → E w → AnyG P md ops Q (fun w => S w ∧ E w) [] f l a w → AnyG P md ops Q S [] f l a w
  | 0, _, _, _, _, _, h => h
  | f + 1, _, _, _, hs, he, h => ⟨h.1, fun i hi => wpOp_mono (fun a' w' h' => ⟨fun _ _ => (h'.1 (by simp) ⟨hs, he⟩).1, AnyG.more f _ a' w' (h'.1 (by simp) ⟨hs, he⟩).1 (h'.1 (by simp) ⟨hs, he⟩).2 h'.2⟩) (h.2 i hi)⟩
end
namespace Co
theorem knd_at (k : Nat) (h1 : 1 ≤ k) (h2 : k ≤ 3) : ([.string { data := #[112, 108, 97, 105, 110] }, .string { data := #[114, 114, 114] }, .string { data := #[102, 97, 110, 111] }] : List Value)[k - 1]? = some (.string (str (knd k))) := by
  have key : k = 1 ∨ k = 2 ∨ k = 3 := by omega
  rcases key with rfl | rfl | rfl <;> rfl
theorem shp_len (n : Nat) : (shp n).length ≤ 6 := by unfold shp; split <;> decide
theorem knd_len (n : Nat) : (knd n).length ≤ 5 := by unfold knd; split <;> decide
theorem dg_len (n : Nat) : (dg n).length ≤ 2 := by
  unfold dg
  cases Nat.ble n 9
  · exact Nat.le_refl _
  · exact (by decide : 1 ≤ 2)
end Co
set_option maxHeartbeats 8000000 in
theorem rname_n (s i l k m : Nat) (hok : Co.ok (s, i, l, k, m) = true) (w : World) :
    Calls Tryd.prog 15 #[.agg #[.int .i64 (s : Nat), .int .i64 (i : Nat), .int .i64 (l : Nat), .int .i64 (k : Nat), .int .i64 (m : Nat)]] w fun e w' => e = .returned (.string (Co.str (Co.nm (s, i, l, k, m)))) ∧ Below w.heap.size w w' := by
  have HOK := hide hok
  unfold Co.ok at hok
  simp only [Bool.and_eq_true, Co.ble_dec, Co.beq_dec, decide_eq_true_eq] at hok
  obtain ⟨hs1, hs4, hk1, hk3, hm, hrest⟩ := hok
  have hm99 : m ≤ 64 := by
    unfold Co.inB at hm
    rw [List.any_eq_true] at hm
    obtain ⟨x, hx, e⟩ := hm
    rw [Nat.beq_eq] at e
    subst e
    have : ∀ y ∈ Co.sam, y ≤ 64 := by decide
    exact this x hx
  have RC : Hid (∀ w0, Calls Tryd.prog 14 #[.agg #[.int .i64 (s : Nat), .int .i64 (i : Nat), .int .i64 (l : Nat), .int .i64 (k : Nat), .int .i64 (m : Nat)]] w0 fun e w' => e = .returned (.bool true) ∧ Below w0.heap.size w0 w') := fun w0 => by
    have := rcheck_c s i l k m w0
    rwa [show Co.okZ ((s : Int), (i : Int), (l : Int), (k : Int), (m : Int)) = true from (Co.okZ_nat (s, i, l, k, m)).trans HOK.out] at this
  have RD := hide (fun w0 => rdec_c m (by omega) w0)
  have KN := hide (Co.knd_at k hk1 hk3)
  obtain ⟨kk, hkk⟩ : ∃ kk, Hid (kk = k - 1) := ⟨_, rfl⟩
  rw [← hkk.out] at KN
  have kz : (k : Int) - 1 = (kk : Int) := by have := hkk.out; omega
  have kl : (kk : Int) < 3 := by have := hkk.out; omega
  have kl2 : kk < 3 := by omega
  have kw : IntKind.i64.wrap (kk : Int) = (kk : Int) := by simp [IntKind.wrap, IntKind.bits, IntKind.signed]; omega
  have L1 := Co.knd_len k
  have L2 := Co.dg_len m
  obtain ⟨W, hW⟩ : ∃ W, W = w.alloc (.cells #[.int .i64 (s : Nat), .int .i64 (i : Nat), .int .i64 (l : Nat), .int .i64 (k : Nat), .int .i64 (m : Nat)] 23) := ⟨_, rfl⟩
  have HB0 : Hid (Below w.heap.size w W) := by rw [hW]; exact below_alloc w _
  have HC : Hid (Cel W w.heap.size [.int .i64 (s : Nat), .int .i64 (i : Nat), .int .i64 (l : Nat), .int .i64 (k : Nat), .int .i64 (m : Nat)] 23) := by rw [hW]; exact Cel.new w _ _
  have HW := hide hW
  obtain ⟨gb, hgb⟩ : ∃ gb, Hid (gb = w.heap.size) := ⟨_, rfl⟩
  rw [← hgb.out] at HC
  have c0 := HC.out.cell 0 rfl
  have c1 := HC.out.cell 1 rfl
  have c2 := HC.out.cell 2 rfl
  have c3 := HC.out.cell 3 rfl
  have c4 := HC.out.cell 4 rfl
  clear hW hm
  by_cases h4 : s = 4
  · rw [decide_eq_true h4] at hrest
    have h4z : ((s : Int) == 4) = true := by simp; omega
    have HS4 := hide h4
    clear h4
    simp only [cond_true, Bool.and_eq_true, decide_eq_true_eq] at hrest
    obtain ⟨hi1, hi3, hl⟩ := hrest
    have hl12 : l ≤ 12 := by
      unfold Co.inB at hl
      rw [List.any_eq_true] at hl
      obtain ⟨x, hx, e⟩ := hl
      rw [Nat.beq_eq] at e
      subst e
      have : ∀ y ∈ Co.lgs, y ≤ 12 := by decide
      exact this x hx
    have RS := hide (fun w0 => rshape_c i hi1 hi3 w0)
    have RG := hide (fun w0 => rdec_c l (by omega) w0)
    have L3 := Co.shp_len i
    have L4 := Co.dg_len l
    obtain ⟨q1, hq1⟩ : ∃ q1, Hid ([98, 111, 111, 115, 116, 45] ++ Co.shp i = q1) := ⟨[98, 111, 111, 115, 116, 45] ++ Co.shp i, (rfl : [98, 111, 111, 115, 116, 45] ++ Co.shp i = _)⟩
    obtain ⟨q2, hq2⟩ : ∃ q2, Hid (q1 ++ [45] = q2) := ⟨q1 ++ [45], (rfl : q1 ++ [45] = _)⟩
    obtain ⟨pre, hpre⟩ : ∃ pre, Hid (q2 ++ Co.dg l = pre) := ⟨_, rfl⟩
    have m1 : q1.length ≤ 12 := by rw [← hq1.out, List.length_append]; simp; omega
    have m2 : q2.length ≤ 13 := by rw [← hq2.out, List.length_append]; simp; omega
    have LP : pre.length ≤ 16 := by rw [← hpre.out, List.length_append]; omega
    have U1 : Op.stringOp .add { data := #[98, 111, 111, 115, 116, 45] } (Co.str (Co.shp i)) = pure (.string (Co.str q1)) := by
      have := Co.add_str [98, 111, 111, 115, 116, 45] (Co.shp i) (by simp; omega)
      rw [hq1.out] at this
      exact this
    have U2 : Op.stringOp .add (Co.str q1) { data := #[45] } = pure (.string (Co.str q2)) := by
      have := Co.add_str q1 [45] (by simp; omega)
      rw [hq2.out] at this
      exact this
    have U3 : Op.stringOp .add (Co.str q2) (Co.str (Co.dg l)) = pure (.string (Co.str pre)) := by
      have := Co.add_str q2 (Co.dg l) (by omega)
      rw [hpre.out] at this
      exact this
    obtain ⟨p1, hp1⟩ : ∃ p1, Hid (pre ++ [47] = p1) := ⟨pre ++ [47], (rfl : pre ++ [47] = pre ++ [47])⟩
    obtain ⟨p2, hp2⟩ : ∃ p2, Hid (p1 ++ Co.knd k = p2) := ⟨_, rfl⟩
    obtain ⟨p3, hp3⟩ : ∃ p3, Hid (p2 ++ [47] = p3) := ⟨p2 ++ [47], (rfl : p2 ++ [47] = p2 ++ [47])⟩
    obtain ⟨p4, hp4⟩ : ∃ p4, Hid (p3 ++ Co.dg m = p4) := ⟨_, rfl⟩
    have l1 : p1.length ≤ 17 := by rw [← hp1.out, List.length_append]; simp; omega
    have l2 : p2.length ≤ 22 := by rw [← hp2.out, List.length_append]; omega
    have l3 : p3.length ≤ 23 := by rw [← hp3.out, List.length_append]; simp; omega
    have T1 : Op.stringOp .add (Co.str pre) { data := #[47] } = pure (.string (Co.str p1)) := by
      have := Co.add_str pre [47] (by simp; omega)
      rw [hp1.out] at this
      exact this
    have T2 : Op.stringOp .add (Co.str p1) (Co.str (Co.knd k)) = pure (.string (Co.str p2)) := by
      have := Co.add_str p1 (Co.knd k) (by omega)
      rw [hp2.out] at this
      exact this
    have T3 : Op.stringOp .add (Co.str p2) { data := #[47] } = pure (.string (Co.str p3)) := by
      have := Co.add_str p2 [47] (by simp; omega)
      rw [hp3.out] at this
      exact this
    have T4 : Op.stringOp .add (Co.str p3) (Co.str (Co.dg m)) = pure (.string (Co.str p4)) := by
      have := Co.add_str p3 (Co.dg m) (by omega)
      rw [hp4.out] at this
      exact this
    have RN : Hid (Co.nm (s, i, l, k, m) = p4) := by
      show Co.nm _ = _
      rw [HS4.out]
      unfold Co.nm
      rw [← hp4.out, ← hp3.out, ← hp2.out, ← hp1.out, ← hpre.out, ← hq2.out, ← hq1.out]
      rfl
    clear hl
    go_enter Tryd.func15, Tryd.ntmps15
    go_wp2_with fail
    rw [← HW.out, ← hgb.out]
    refine (RC.out _).mono ?_
    rintro e w1 ⟨rfl, hb⟩
    have HC1 := hide (HC.out.kept hb)
    have HB1 := hide (HB0.out.trans (hb.mono HB0.out.size))
    have d0 := HC1.out.cell 0 rfl
    clear hb c0 c1 c2 c3 c4 HC HB0
    go_wp2
    refine region_g [] (fun w' => Cel w' gb [.int .i64 (s : Nat), .int .i64 (i : Nat), .int .i64 (l : Nat), .int .i64 (k : Nat), .int .i64 (m : Nat)] 23 ∧ Below w.heap.size w w') (by kernel_rfl) ?_
    have hS : (fun w' => Cel w' gb [.int .i64 (s : Nat), .int .i64 (i : Nat), .int .i64 (l : Nat), .int .i64 (k : Nat), .int .i64 (m : Nat)] 23 ∧ Below w.heap.size w w') w1.drew := ⟨HC1.out.drew, HB1.out.drew⟩
    generalize w1.drew = V at *
    refine AnyG.take 0 (v := ?vv1) rfl (by kernel_rfl) (by kernel_rfl) (by kernel_rfl) (by kernel_rfl) (fun _ _ _ h => h) hS ?hy1 (by rfl) ?rest1
    case hy1 =>
      intro w0 h0
      go_simp
      try with_reducible rfl
    simp only [Act.put, List.getElem_toArray, List.getElem_cons_zero, List.getElem_cons_succ, List.setIfInBounds_toArray, List.set_cons_zero, List.set_cons_succ]
    refine AnyG.take 1 (v := ?vv2) rfl (by kernel_rfl) (by kernel_rfl) (by kernel_rfl) (by kernel_rfl) (fun _ _ _ h => h) hS ?hy2 (by rfl) ?rest2
    case hy2 =>
      intro w0 h0
      have c0 := h0.1.cell 1 rfl
      go_simp
      try with_reducible rfl
    simp only [Act.put, List.getElem_toArray, List.getElem_cons_zero, List.getElem_cons_succ, List.setIfInBounds_toArray, List.set_cons_zero, List.set_cons_succ]
    refine AnyG.take 5 (v := ?vv3) rfl (by kernel_rfl) (by kernel_rfl) (by kernel_rfl) (by kernel_rfl) (fun _ _ _ h => h) hS ?hy3 (by rfl) ?rest3
    case hy3 =>
      intro w0 h0
      go_simp
      try with_reducible rfl
    simp only [Act.put, List.getElem_toArray, List.getElem_cons_zero, List.getElem_cons_succ, List.setIfInBounds_toArray, List.set_cons_zero, List.set_cons_succ]
    refine AnyG.take 6 (v := ?vv4) rfl (by kernel_rfl) (by kernel_rfl) (by kernel_rfl) (by kernel_rfl) (fun _ _ _ h => h) hS ?hy4 (by rfl) ?rest4
    case hy4 =>
      intro w0 h0
      have c0 := h0.1.cell 2 rfl
      go_simp
      try with_reducible rfl
    simp only [Act.put, List.getElem_toArray, List.getElem_cons_zero, List.getElem_cons_succ, List.setIfInBounds_toArray, List.set_cons_zero, List.set_cons_succ]
    refine AnyG.one 2 (by kernel_rfl) rfl ?_
    intro K hK
    go_simp
    refine (RS.out _).mono ?_
    rintro e w2 ⟨rfl, hb⟩
    have hS1 : (fun w' => Cel w' gb [.int .i64 (s : Nat), .int .i64 (i : Nat), .int .i64 (l : Nat), .int .i64 (k : Nat), .int .i64 (m : Nat)] 23 ∧ Below w.heap.size w w') w2 := ⟨hS.1.kept hb, hS.2.trans (hb.mono hS.2.size)⟩
    clear hb hS
    refine hK.out _ _ (fun _ => hS1) ?_
    clear hK K
    try simp only [Act.put, List.getElem_toArray, List.getElem_cons_zero, List.getElem_cons_succ, List.setIfInBounds_toArray, List.set_cons_zero, List.set_cons_succ]
    refine AnyG.take 3 (v := ?vv5) rfl (by kernel_rfl) (by kernel_rfl) (by kernel_rfl) (by kernel_rfl) (fun _ _ _ h => h) hS1 ?hy5 (by rfl) ?rest5
    case hy5 =>
      intro w0 h0
      go_simp
      try with_reducible rfl
    simp only [Act.put, List.getElem_toArray, List.getElem_cons_zero, List.getElem_cons_succ, List.setIfInBounds_toArray, List.set_cons_zero, List.set_cons_succ]
    refine AnyG.take 4 (v := ?vv6) rfl (by kernel_rfl) (by kernel_rfl) (by kernel_rfl) (by kernel_rfl) (fun _ _ _ h => h) hS1 ?hy6 (by rfl) ?rest6
    case hy6 =>
      intro w0 h0
      go_simp
      try with_reducible rfl
    simp only [Act.put, List.getElem_toArray, List.getElem_cons_zero, List.getElem_cons_succ, List.setIfInBounds_toArray, List.set_cons_zero, List.set_cons_succ]
    refine AnyG.one 7 (by kernel_rfl) rfl ?_
    intro K hK
    go_simp
    refine (RG.out _).mono ?_
    rintro e w3 ⟨rfl, hb⟩
    have hS2 : (fun w' => Cel w' gb [.int .i64 (s : Nat), .int .i64 (i : Nat), .int .i64 (l : Nat), .int .i64 (k : Nat), .int .i64 (m : Nat)] 23 ∧ Below w.heap.size w w') w3 := ⟨hS1.1.kept hb, hS1.2.trans (hb.mono hS1.2.size)⟩
    clear hb hS1
    refine hK.out _ _ (fun _ => hS2) ?_
    clear hK K
    try simp only [Act.put, List.getElem_toArray, List.getElem_cons_zero, List.getElem_cons_succ, List.setIfInBounds_toArray, List.set_cons_zero, List.set_cons_succ]
    refine AnyG.take 8 (v := ?vv7) rfl (by kernel_rfl) (by kernel_rfl) (by kernel_rfl) (by kernel_rfl) (fun _ _ _ h => h) hS2 ?hy7 (by rfl) ?rest7
    case hy7 =>
      intro w0 h0
      go_simp
      try with_reducible rfl
    simp only [Act.put, List.getElem_toArray, List.getElem_cons_zero, List.getElem_cons_succ, List.setIfInBounds_toArray, List.set_cons_zero, List.set_cons_succ]
    refine AnyG.take 9 (v := ?vv8) rfl (by kernel_rfl) (by kernel_rfl) (by kernel_rfl) (by kernel_rfl) (fun _ _ _ h => h) hS2 ?hy8 (by rfl) ?rest8
    case hy8 =>
      intro w0 h0
      go_simp
      try with_reducible rfl
    simp only [Act.put, List.getElem_toArray, List.getElem_cons_zero, List.getElem_cons_succ, List.setIfInBounds_toArray, List.set_cons_zero, List.set_cons_succ]
    refine AnyG.done (by kernel_rfl) ?_ _
    have HC3 := hS2.1
    have HB3 := hS2.2
    clear hS2
    go_wp2
    refine region_g [] (fun w' => Cel w' gb [.int .i64 (s : Nat), .int .i64 (i : Nat), .int .i64 (l : Nat), .int .i64 (k : Nat), .int .i64 (m : Nat)] 23 ∧ Below w.heap.size w w') (by kernel_rfl) ?_
    have hS : (fun w' => Cel w' gb [.int .i64 (s : Nat), .int .i64 (i : Nat), .int .i64 (l : Nat), .int .i64 (k : Nat), .int .i64 (m : Nat)] 23 ∧ Below w.heap.size w w') w3.drew := ⟨HC3.drew, HB3.drew⟩
    clear HC3 HB3
    generalize w3.drew = V at *
    refine AnyG.take 0 (v := ?vv9) rfl (by kernel_rfl) (by kernel_rfl) (by kernel_rfl) (by kernel_rfl) (fun _ _ _ h => h) hS ?hy9 (by rfl) ?rest9
    case hy9 =>
      intro w0 h0
      go_simp
      try with_reducible rfl
    simp only [Act.put, List.getElem_toArray, List.getElem_cons_zero, List.getElem_cons_succ, List.setIfInBounds_toArray, List.set_cons_zero, List.set_cons_succ]
    refine AnyG.take 1 (v := ?vv10) rfl (by kernel_rfl) (by kernel_rfl) (by kernel_rfl) (by kernel_rfl) (fun _ _ _ h => h) hS ?hy10 (by rfl) ?rest10
    case hy10 =>
      intro w0 h0
      go_simp
      try with_reducible rfl
    simp only [Act.put, List.getElem_toArray, List.getElem_cons_zero, List.getElem_cons_succ, List.setIfInBounds_toArray, List.set_cons_zero, List.set_cons_succ]
    refine AnyG.take 3 (v := ?vv11) rfl (by kernel_rfl) (by kernel_rfl) (by kernel_rfl) (by kernel_rfl) (fun _ _ _ h => h) hS ?hy11 (by rfl) ?rest11
    case hy11 =>
      intro w0 h0
      go_simp
      try with_reducible rfl
    simp only [Act.put, List.getElem_toArray, List.getElem_cons_zero, List.getElem_cons_succ, List.setIfInBounds_toArray, List.set_cons_zero, List.set_cons_succ]
    refine AnyG.take 4 (v := ?vv12) rfl (by kernel_rfl) (by kernel_rfl) (by kernel_rfl) (by kernel_rfl) (fun _ _ _ h => h) hS ?hy12 (by rfl) ?rest12
    case hy12 =>
      intro w0 h0
      have c0 := h0.1.cell 3 rfl
      go_simp
      try with_reducible rfl
    simp only [Act.put, List.getElem_toArray, List.getElem_cons_zero, List.getElem_cons_succ, List.setIfInBounds_toArray, List.set_cons_zero, List.set_cons_succ]
    refine AnyG.take 5 (v := ?vv13) rfl (by kernel_rfl) (by kernel_rfl) (by kernel_rfl) (by kernel_rfl) (fun _ _ _ h => h) hS ?hy13 (by rfl) ?rest13
    case hy13 =>
      intro w0 h0
      go_simp
      try with_reducible rfl
    simp only [Act.put, List.getElem_toArray, List.getElem_cons_zero, List.getElem_cons_succ, List.setIfInBounds_toArray, List.set_cons_zero, List.set_cons_succ]
    refine AnyG.take 10 (v := ?vv14) rfl (by kernel_rfl) (by kernel_rfl) (by kernel_rfl) (by kernel_rfl) (fun _ _ _ h => h) hS ?hy14 (by rfl) ?rest14
    case hy14 =>
      intro w0 h0
      go_simp
      try with_reducible rfl
    simp only [Act.put, List.getElem_toArray, List.getElem_cons_zero, List.getElem_cons_succ, List.setIfInBounds_toArray, List.set_cons_zero, List.set_cons_succ]
    refine AnyG.take 11 (v := ?vv15) rfl (by kernel_rfl) (by kernel_rfl) (by kernel_rfl) (by kernel_rfl) (fun _ _ _ h => h) hS ?hy15 (by rfl) ?rest15
    case hy15 =>
      intro w0 h0
      have c0 := h0.1.cell 4 rfl
      go_simp
      try with_reducible rfl
    simp only [Act.put, List.getElem_toArray, List.getElem_cons_zero, List.getElem_cons_succ, List.setIfInBounds_toArray, List.set_cons_zero, List.set_cons_succ]
    refine AnyG.two 2 12 (by kernel_rfl) rfl rfl ?_ ?_
    · intro K hK
      obtain ⟨V0, rfl⟩ : ∃ V0, V0 = V := ⟨_, rfl⟩
      go_simp
      have hE : (fun (w' : World) => w'.cell? ⟨V0.heap.size, kk, none⟩ = some (.string (Co.str (Co.knd k)))) (V0.alloc (.cells #[.string { data := #[112, 108, 97, 105, 110] }, .string { data := #[114, 114, 114] }, .string { data := #[102, 97, 110, 111] }] 9)) := (Cel.new V0 [.string { data := #[112, 108, 97, 105, 110] }, .string { data := #[114, 114, 114] }, .string { data := #[102, 97, 110, 111] }] 9).cell kk KN.out
      have hS1 : (fun w' => Cel w' gb [.int .i64 (s : Nat), .int .i64 (i : Nat), .int .i64 (l : Nat), .int .i64 (k : Nat), .int .i64 (m : Nat)] 23 ∧ Below w.heap.size w w') (V0.alloc (.cells #[.string { data := #[112, 108, 97, 105, 110] }, .string { data := #[114, 114, 114] }, .string { data := #[102, 97, 110, 111] }] 9)) := ⟨hS.1.alloc _, hS.2.alloc hS.2.size _⟩
      refine hK.out _ _ (fun _ => hS1) ?_
      clear hK K
      try simp only [Act.put, List.getElem_toArray, List.getElem_cons_zero, List.getElem_cons_succ, List.setIfInBounds_toArray, List.set_cons_zero, List.set_cons_succ]
      refine AnyG.more (E := (fun (w' : World) => w'.cell? ⟨V0.heap.size, kk, none⟩ = some (.string (Co.str (Co.knd k))))) _ _ _ _ hS1 hE ?_
      have hT := And.intro hS1 hE
      generalize V0.heap.size = GG at *
      generalize V0.alloc _ = V1 at *
      refine AnyG.take 6 (v := ?vv16) rfl (by kernel_rfl) (by kernel_rfl) (by kernel_rfl) (by kernel_rfl) (fun _ _ _ h => h) hT ?hy16 (by rfl) ?rest16
      case hy16 =>
        intro w0 h0
        go_simp
        try with_reducible rfl
      simp only [Act.put, List.getElem_toArray, List.getElem_cons_zero, List.getElem_cons_succ, List.setIfInBounds_toArray, List.set_cons_zero, List.set_cons_succ]
      refine AnyG.take 7 (v := ?vv17) rfl (by kernel_rfl) (by kernel_rfl) (by kernel_rfl) (by kernel_rfl) (fun _ _ _ h => h) hT ?hy17 (by rfl) ?rest17
      case hy17 =>
        intro w0 h0
        have c0 := h0.2
        go_simp
        try with_reducible rfl
      simp only [Act.put, List.getElem_toArray, List.getElem_cons_zero, List.getElem_cons_succ, List.setIfInBounds_toArray, List.set_cons_zero, List.set_cons_succ]
      refine AnyG.take 8 (v := ?vv18) rfl (by kernel_rfl) (by kernel_rfl) (by kernel_rfl) (by kernel_rfl) (fun _ _ _ h => h) hT ?hy18 (by rfl) ?rest18
      case hy18 =>
        intro w0 h0
        go_simp
        try with_reducible rfl
      simp only [Act.put, List.getElem_toArray, List.getElem_cons_zero, List.getElem_cons_succ, List.setIfInBounds_toArray, List.set_cons_zero, List.set_cons_succ]
      refine AnyG.take 9 (v := ?vv19) rfl (by kernel_rfl) (by kernel_rfl) (by kernel_rfl) (by kernel_rfl) (fun _ _ _ h => h) hT ?hy19 (by rfl) ?rest19
      case hy19 =>
        intro w0 h0
        go_simp
        try with_reducible rfl
      simp only [Act.put, List.getElem_toArray, List.getElem_cons_zero, List.getElem_cons_succ, List.setIfInBounds_toArray, List.set_cons_zero, List.set_cons_succ]
      refine AnyG.one 12 (by kernel_rfl) rfl ?_
      intro K hK
      go_simp
      refine (RD.out _).mono ?_
      rintro e w5 ⟨rfl, hb⟩
      have hT2 : (fun w' => Cel w' gb [.int .i64 (s : Nat), .int .i64 (i : Nat), .int .i64 (l : Nat), .int .i64 (k : Nat), .int .i64 (m : Nat)] 23 ∧ Below w.heap.size w w') w5 ∧ (fun (w' : World) => w'.cell? ⟨GG, kk, none⟩ = some (.string (Co.str (Co.knd k)))) w5 := ⟨⟨hT.1.1.kept hb, hT.1.2.trans (hb.mono hT.1.2.size)⟩, (hb.cell (p := ⟨GG, kk, none⟩) (cell_lt hT.2).1).trans hT.2⟩
      refine hK.out _ _ (fun _ => hT2) ?_
      clear hK K
      try simp only [Act.put, List.getElem_toArray, List.getElem_cons_zero, List.getElem_cons_succ, List.setIfInBounds_toArray, List.set_cons_zero, List.set_cons_succ]
      refine AnyG.take 13 (v := ?vv20) rfl (by kernel_rfl) (by kernel_rfl) (by kernel_rfl) (by kernel_rfl) (fun _ _ _ h => h) hT2 ?hy20 (by rfl) ?rest20
      case hy20 =>
        intro w0 h0
        go_simp
        try with_reducible rfl
      simp only [Act.put, List.getElem_toArray, List.getElem_cons_zero, List.getElem_cons_succ, List.setIfInBounds_toArray, List.set_cons_zero, List.set_cons_succ]
      refine AnyG.take 14 (v := ?vv21) rfl (by kernel_rfl) (by kernel_rfl) (by kernel_rfl) (by kernel_rfl) (fun _ _ _ h => h) hT2 ?hy21 (by rfl) ?rest21
      case hy21 =>
        intro w0 h0
        go_simp
        try with_reducible rfl
      simp only [Act.put, List.getElem_toArray, List.getElem_cons_zero, List.getElem_cons_succ, List.setIfInBounds_toArray, List.set_cons_zero, List.set_cons_succ]
      refine AnyG.done (by kernel_rfl) ?_ _
      go_wp2
      go_ret
      rw [RN.out]
      exact ⟨rfl, hT2.1.2⟩
    · intro K hK
      go_simp
      refine (RD.out _).mono ?_
      rintro e w5 ⟨rfl, hb⟩
      have hS0 : (fun w' => Cel w' gb [.int .i64 (s : Nat), .int .i64 (i : Nat), .int .i64 (l : Nat), .int .i64 (k : Nat), .int .i64 (m : Nat)] 23 ∧ Below w.heap.size w w') w5 := ⟨hS.1.kept hb, hS.2.trans (hb.mono hS.2.size)⟩
      refine hK.out _ _ (fun _ => hS0) ?_
      clear hK K
      try simp only [Act.put, List.getElem_toArray, List.getElem_cons_zero, List.getElem_cons_succ, List.setIfInBounds_toArray, List.set_cons_zero, List.set_cons_succ]
      refine AnyG.one 2 (by kernel_rfl) rfl ?_
      intro K hK
      obtain ⟨V0, rfl⟩ : ∃ V0, V0 = w5 := ⟨_, rfl⟩
      go_simp
      have hE : (fun (w' : World) => w'.cell? ⟨V0.heap.size, kk, none⟩ = some (.string (Co.str (Co.knd k)))) (V0.alloc (.cells #[.string { data := #[112, 108, 97, 105, 110] }, .string { data := #[114, 114, 114] }, .string { data := #[102, 97, 110, 111] }] 9)) := (Cel.new V0 [.string { data := #[112, 108, 97, 105, 110] }, .string { data := #[114, 114, 114] }, .string { data := #[102, 97, 110, 111] }] 9).cell kk KN.out
      have hS1 : (fun w' => Cel w' gb [.int .i64 (s : Nat), .int .i64 (i : Nat), .int .i64 (l : Nat), .int .i64 (k : Nat), .int .i64 (m : Nat)] 23 ∧ Below w.heap.size w w') (V0.alloc (.cells #[.string { data := #[112, 108, 97, 105, 110] }, .string { data := #[114, 114, 114] }, .string { data := #[102, 97, 110, 111] }] 9)) := ⟨hS0.1.alloc _, hS0.2.alloc hS0.2.size _⟩
      refine hK.out _ _ (fun _ => hS1) ?_
      clear hK K
      try simp only [Act.put, List.getElem_toArray, List.getElem_cons_zero, List.getElem_cons_succ, List.setIfInBounds_toArray, List.set_cons_zero, List.set_cons_succ]
      refine AnyG.more (E := (fun (w' : World) => w'.cell? ⟨V0.heap.size, kk, none⟩ = some (.string (Co.str (Co.knd k))))) _ _ _ _ hS1 hE ?_
      have hT := And.intro hS1 hE
      generalize V0.heap.size = GG at *
      generalize V0.alloc _ = V1 at *
      refine AnyG.take 6 (v := ?vv22) rfl (by kernel_rfl) (by kernel_rfl) (by kernel_rfl) (by kernel_rfl) (fun _ _ _ h => h) hT ?hy22 (by rfl) ?rest22
      case hy22 =>
        intro w0 h0
        go_simp
        try with_reducible rfl
      simp only [Act.put, List.getElem_toArray, List.getElem_cons_zero, List.getElem_cons_succ, List.setIfInBounds_toArray, List.set_cons_zero, List.set_cons_succ]
      refine AnyG.take 7 (v := ?vv23) rfl (by kernel_rfl) (by kernel_rfl) (by kernel_rfl) (by kernel_rfl) (fun _ _ _ h => h) hT ?hy23 (by rfl) ?rest23
      case hy23 =>
        intro w0 h0
        have c0 := h0.2
        go_simp
        try with_reducible rfl
      simp only [Act.put, List.getElem_toArray, List.getElem_cons_zero, List.getElem_cons_succ, List.setIfInBounds_toArray, List.set_cons_zero, List.set_cons_succ]
      refine AnyG.take 8 (v := ?vv24) rfl (by kernel_rfl) (by kernel_rfl) (by kernel_rfl) (by kernel_rfl) (fun _ _ _ h => h) hT ?hy24 (by rfl) ?rest24
      case hy24 =>
        intro w0 h0
        go_simp
        try with_reducible rfl
      simp only [Act.put, List.getElem_toArray, List.getElem_cons_zero, List.getElem_cons_succ, List.setIfInBounds_toArray, List.set_cons_zero, List.set_cons_succ]
      refine AnyG.take 9 (v := ?vv25) rfl (by kernel_rfl) (by kernel_rfl) (by kernel_rfl) (by kernel_rfl) (fun _ _ _ h => h) hT ?hy25 (by rfl) ?rest25
      case hy25 =>
        intro w0 h0
        go_simp
        try with_reducible rfl
      simp only [Act.put, List.getElem_toArray, List.getElem_cons_zero, List.getElem_cons_succ, List.setIfInBounds_toArray, List.set_cons_zero, List.set_cons_succ]
      refine AnyG.take 13 (v := ?vv26) rfl (by kernel_rfl) (by kernel_rfl) (by kernel_rfl) (by kernel_rfl) (fun _ _ _ h => h) hT ?hy26 (by rfl) ?rest26
      case hy26 =>
        intro w0 h0
        go_simp
        try with_reducible rfl
      simp only [Act.put, List.getElem_toArray, List.getElem_cons_zero, List.getElem_cons_succ, List.setIfInBounds_toArray, List.set_cons_zero, List.set_cons_succ]
      refine AnyG.take 14 (v := ?vv27) rfl (by kernel_rfl) (by kernel_rfl) (by kernel_rfl) (by kernel_rfl) (fun _ _ _ h => h) hT ?hy27 (by rfl) ?rest27
      case hy27 =>
        intro w0 h0
        go_simp
        try with_reducible rfl
      simp only [Act.put, List.getElem_toArray, List.getElem_cons_zero, List.getElem_cons_succ, List.setIfInBounds_toArray, List.set_cons_zero, List.set_cons_succ]
      refine AnyG.done (by kernel_rfl) ?_ _
      go_wp2
      go_ret
      rw [RN.out]
      exact ⟨rfl, hT.1.2⟩
  · have h4' : (s == 4) = false := by simp [h4]
    have h4z : ((s : Int) == 4) = false := by simp; omega
    have RSH := hide (fun w0 => rshape_c s hs1 (by omega) w0)
    obtain ⟨pre, hpre⟩ : ∃ pre, Hid (Co.shp s = pre) := ⟨_, rfl⟩
    have LP : pre.length ≤ 16 := by rw [← hpre.out]; have := Co.shp_len s; omega
    rw [hpre.out] at RSH
    obtain ⟨p1, hp1⟩ : ∃ p1, Hid (pre ++ [47] = p1) := ⟨pre ++ [47], (rfl : pre ++ [47] = pre ++ [47])⟩
    obtain ⟨p2, hp2⟩ : ∃ p2, Hid (p1 ++ Co.knd k = p2) := ⟨_, rfl⟩
    obtain ⟨p3, hp3⟩ : ∃ p3, Hid (p2 ++ [47] = p3) := ⟨p2 ++ [47], (rfl : p2 ++ [47] = p2 ++ [47])⟩
    obtain ⟨p4, hp4⟩ : ∃ p4, Hid (p3 ++ Co.dg m = p4) := ⟨_, rfl⟩
    have l1 : p1.length ≤ 17 := by rw [← hp1.out, List.length_append]; simp; omega
    have l2 : p2.length ≤ 22 := by rw [← hp2.out, List.length_append]; omega
    have l3 : p3.length ≤ 23 := by rw [← hp3.out, List.length_append]; simp; omega
    have T1 : Op.stringOp .add (Co.str pre) { data := #[47] } = pure (.string (Co.str p1)) := by
      have := Co.add_str pre [47] (by simp; omega)
      rw [hp1.out] at this
      exact this
    have T2 : Op.stringOp .add (Co.str p1) (Co.str (Co.knd k)) = pure (.string (Co.str p2)) := by
      have := Co.add_str p1 (Co.knd k) (by omega)
      rw [hp2.out] at this
      exact this
    have T3 : Op.stringOp .add (Co.str p2) { data := #[47] } = pure (.string (Co.str p3)) := by
      have := Co.add_str p2 [47] (by simp; omega)
      rw [hp3.out] at this
      exact this
    have T4 : Op.stringOp .add (Co.str p3) (Co.str (Co.dg m)) = pure (.string (Co.str p4)) := by
      have := Co.add_str p3 (Co.dg m) (by omega)
      rw [hp4.out] at this
      exact this
    have RN : Hid (Co.nm (s, i, l, k, m) = p4) := by
      show Co.nm _ = _
      unfold Co.nm
      simp only [Co.beq_dec]
      rw [decide_eq_false h4, ← hp4.out, ← hp3.out, ← hp2.out, ← hp1.out, ← hpre.out]
      rfl
    clear hrest h4
    go_enter Tryd.func15, Tryd.ntmps15
    go_wp2_with fail
    rw [← HW.out, ← hgb.out]
    refine (RC.out _).mono ?_
    rintro e w1 ⟨rfl, hb⟩
    have HC1 := hide (HC.out.kept hb)
    have HB1 := hide (HB0.out.trans (hb.mono HB0.out.size))
    have d0 := HC1.out.cell 0 rfl
    clear hb c0 c1 c2 c3 c4 HC HB0
    go_wp2_with fail
    refine (RSH.out _).mono ?_
    rintro e w2 ⟨rfl, hb⟩
    have HC2 := HC1.out.kept hb
    have HB2 := HB1.out.trans (hb.mono HB1.out.size)
    clear hb HC1 HB1 d0
    go_wp2
    refine region_g [] (fun w' => Cel w' gb [.int .i64 (s : Nat), .int .i64 (i : Nat), .int .i64 (l : Nat), .int .i64 (k : Nat), .int .i64 (m : Nat)] 23 ∧ Below w.heap.size w w') (by kernel_rfl) ?_
    have hS : (fun w' => Cel w' gb [.int .i64 (s : Nat), .int .i64 (i : Nat), .int .i64 (l : Nat), .int .i64 (k : Nat), .int .i64 (m : Nat)] 23 ∧ Below w.heap.size w w') w2.drew := ⟨HC2.drew, HB2.drew⟩
    clear HC2 HB2
    generalize w2.drew = V at *
    refine AnyG.take 0 (v := ?vv28) rfl (by kernel_rfl) (by kernel_rfl) (by kernel_rfl) (by kernel_rfl) (fun _ _ _ h => h) hS ?hy28 (by rfl) ?rest28
    case hy28 =>
      intro w0 h0
      go_simp
      try with_reducible rfl
    simp only [Act.put, List.getElem_toArray, List.getElem_cons_zero, List.getElem_cons_succ, List.setIfInBounds_toArray, List.set_cons_zero, List.set_cons_succ]
    refine AnyG.take 1 (v := ?vv29) rfl (by kernel_rfl) (by kernel_rfl) (by kernel_rfl) (by kernel_rfl) (fun _ _ _ h => h) hS ?hy29 (by rfl) ?rest29
    case hy29 =>
      intro w0 h0
      go_simp
      try with_reducible rfl
    simp only [Act.put, List.getElem_toArray, List.getElem_cons_zero, List.getElem_cons_succ, List.setIfInBounds_toArray, List.set_cons_zero, List.set_cons_succ]
    refine AnyG.take 3 (v := ?vv30) rfl (by kernel_rfl) (by kernel_rfl) (by kernel_rfl) (by kernel_rfl) (fun _ _ _ h => h) hS ?hy30 (by rfl) ?rest30
    case hy30 =>
      intro w0 h0
      go_simp
      try with_reducible rfl
    simp only [Act.put, List.getElem_toArray, List.getElem_cons_zero, List.getElem_cons_succ, List.setIfInBounds_toArray, List.set_cons_zero, List.set_cons_succ]
    refine AnyG.take 4 (v := ?vv31) rfl (by kernel_rfl) (by kernel_rfl) (by kernel_rfl) (by kernel_rfl) (fun _ _ _ h => h) hS ?hy31 (by rfl) ?rest31
    case hy31 =>
      intro w0 h0
      have c0 := h0.1.cell 3 rfl
      go_simp
      try with_reducible rfl
    simp only [Act.put, List.getElem_toArray, List.getElem_cons_zero, List.getElem_cons_succ, List.setIfInBounds_toArray, List.set_cons_zero, List.set_cons_succ]
    refine AnyG.take 5 (v := ?vv32) rfl (by kernel_rfl) (by kernel_rfl) (by kernel_rfl) (by kernel_rfl) (fun _ _ _ h => h) hS ?hy32 (by rfl) ?rest32
    case hy32 =>
      intro w0 h0
      go_simp
      try with_reducible rfl
    simp only [Act.put, List.getElem_toArray, List.getElem_cons_zero, List.getElem_cons_succ, List.setIfInBounds_toArray, List.set_cons_zero, List.set_cons_succ]
    refine AnyG.take 10 (v := ?vv33) rfl (by kernel_rfl) (by kernel_rfl) (by kernel_rfl) (by kernel_rfl) (fun _ _ _ h => h) hS ?hy33 (by rfl) ?rest33
    case hy33 =>
      intro w0 h0
      go_simp
      try with_reducible rfl
    simp only [Act.put, List.getElem_toArray, List.getElem_cons_zero, List.getElem_cons_succ, List.setIfInBounds_toArray, List.set_cons_zero, List.set_cons_succ]
    refine AnyG.take 11 (v := ?vv34) rfl (by kernel_rfl) (by kernel_rfl) (by kernel_rfl) (by kernel_rfl) (fun _ _ _ h => h) hS ?hy34 (by rfl) ?rest34
    case hy34 =>
      intro w0 h0
      have c0 := h0.1.cell 4 rfl
      go_simp
      try with_reducible rfl
    simp only [Act.put, List.getElem_toArray, List.getElem_cons_zero, List.getElem_cons_succ, List.setIfInBounds_toArray, List.set_cons_zero, List.set_cons_succ]
    refine AnyG.two 2 12 (by kernel_rfl) rfl rfl ?_ ?_
    · intro K hK
      obtain ⟨V0, rfl⟩ : ∃ V0, V0 = V := ⟨_, rfl⟩
      go_simp
      have hE : (fun (w' : World) => w'.cell? ⟨V0.heap.size, kk, none⟩ = some (.string (Co.str (Co.knd k)))) (V0.alloc (.cells #[.string { data := #[112, 108, 97, 105, 110] }, .string { data := #[114, 114, 114] }, .string { data := #[102, 97, 110, 111] }] 9)) := (Cel.new V0 [.string { data := #[112, 108, 97, 105, 110] }, .string { data := #[114, 114, 114] }, .string { data := #[102, 97, 110, 111] }] 9).cell kk KN.out
      have hS1 : (fun w' => Cel w' gb [.int .i64 (s : Nat), .int .i64 (i : Nat), .int .i64 (l : Nat), .int .i64 (k : Nat), .int .i64 (m : Nat)] 23 ∧ Below w.heap.size w w') (V0.alloc (.cells #[.string { data := #[112, 108, 97, 105, 110] }, .string { data := #[114, 114, 114] }, .string { data := #[102, 97, 110, 111] }] 9)) := ⟨hS.1.alloc _, hS.2.alloc hS.2.size _⟩
      refine hK.out _ _ (fun _ => hS1) ?_
      clear hK K
      try simp only [Act.put, List.getElem_toArray, List.getElem_cons_zero, List.getElem_cons_succ, List.setIfInBounds_toArray, List.set_cons_zero, List.set_cons_succ]
      refine AnyG.more (E := (fun (w' : World) => w'.cell? ⟨V0.heap.size, kk, none⟩ = some (.string (Co.str (Co.knd k))))) _ _ _ _ hS1 hE ?_
      have hT := And.intro hS1 hE
      generalize V0.heap.size = GG at *
      generalize V0.alloc _ = V1 at *
      refine AnyG.take 6 (v := ?vv35) rfl (by kernel_rfl) (by kernel_rfl) (by kernel_rfl) (by kernel_rfl) (fun _ _ _ h => h) hT ?hy35 (by rfl) ?rest35
      case hy35 =>
        intro w0 h0
        go_simp
        try with_reducible rfl
      simp only [Act.put, List.getElem_toArray, List.getElem_cons_zero, List.getElem_cons_succ, List.setIfInBounds_toArray, List.set_cons_zero, List.set_cons_succ]
      refine AnyG.take 7 (v := ?vv36) rfl (by kernel_rfl) (by kernel_rfl) (by kernel_rfl) (by kernel_rfl) (fun _ _ _ h => h) hT ?hy36 (by rfl) ?rest36
      case hy36 =>
        intro w0 h0
        have c0 := h0.2
        go_simp
        try with_reducible rfl
      simp only [Act.put, List.getElem_toArray, List.getElem_cons_zero, List.getElem_cons_succ, List.setIfInBounds_toArray, List.set_cons_zero, List.set_cons_succ]
      refine AnyG.take 8 (v := ?vv37) rfl (by kernel_rfl) (by kernel_rfl) (by kernel_rfl) (by kernel_rfl) (fun _ _ _ h => h) hT ?hy37 (by rfl) ?rest37
      case hy37 =>
        intro w0 h0
        go_simp
        try with_reducible rfl
      simp only [Act.put, List.getElem_toArray, List.getElem_cons_zero, List.getElem_cons_succ, List.setIfInBounds_toArray, List.set_cons_zero, List.set_cons_succ]
      refine AnyG.take 9 (v := ?vv38) rfl (by kernel_rfl) (by kernel_rfl) (by kernel_rfl) (by kernel_rfl) (fun _ _ _ h => h) hT ?hy38 (by rfl) ?rest38
      case hy38 =>
        intro w0 h0
        go_simp
        try with_reducible rfl
      simp only [Act.put, List.getElem_toArray, List.getElem_cons_zero, List.getElem_cons_succ, List.setIfInBounds_toArray, List.set_cons_zero, List.set_cons_succ]
      refine AnyG.one 12 (by kernel_rfl) rfl ?_
      intro K hK
      go_simp
      refine (RD.out _).mono ?_
      rintro e w5 ⟨rfl, hb⟩
      have hT2 : (fun w' => Cel w' gb [.int .i64 (s : Nat), .int .i64 (i : Nat), .int .i64 (l : Nat), .int .i64 (k : Nat), .int .i64 (m : Nat)] 23 ∧ Below w.heap.size w w') w5 ∧ (fun (w' : World) => w'.cell? ⟨GG, kk, none⟩ = some (.string (Co.str (Co.knd k)))) w5 := ⟨⟨hT.1.1.kept hb, hT.1.2.trans (hb.mono hT.1.2.size)⟩, (hb.cell (p := ⟨GG, kk, none⟩) (cell_lt hT.2).1).trans hT.2⟩
      refine hK.out _ _ (fun _ => hT2) ?_
      clear hK K
      try simp only [Act.put, List.getElem_toArray, List.getElem_cons_zero, List.getElem_cons_succ, List.setIfInBounds_toArray, List.set_cons_zero, List.set_cons_succ]
      refine AnyG.take 13 (v := ?vv39) rfl (by kernel_rfl) (by kernel_rfl) (by kernel_rfl) (by kernel_rfl) (fun _ _ _ h => h) hT2 ?hy39 (by rfl) ?rest39
      case hy39 =>
        intro w0 h0
        go_simp
        try with_reducible rfl
      simp only [Act.put, List.getElem_toArray, List.getElem_cons_zero, List.getElem_cons_succ, List.setIfInBounds_toArray, List.set_cons_zero, List.set_cons_succ]
      refine AnyG.take 14 (v := ?vv40) rfl (by kernel_rfl) (by kernel_rfl) (by kernel_rfl) (by kernel_rfl) (fun _ _ _ h => h) hT2 ?hy40 (by rfl) ?rest40
      case hy40 =>
        intro w0 h0
        go_simp
        try with_reducible rfl
      simp only [Act.put, List.getElem_toArray, List.getElem_cons_zero, List.getElem_cons_succ, List.setIfInBounds_toArray, List.set_cons_zero, List.set_cons_succ]
      refine AnyG.done (by kernel_rfl) ?_ _
      go_wp2
      go_ret
      rw [RN.out]
      exact ⟨rfl, hT2.1.2⟩
    · intro K hK
      go_simp
      refine (RD.out _).mono ?_
      rintro e w5 ⟨rfl, hb⟩
      have hS0 : (fun w' => Cel w' gb [.int .i64 (s : Nat), .int .i64 (i : Nat), .int .i64 (l : Nat), .int .i64 (k : Nat), .int .i64 (m : Nat)] 23 ∧ Below w.heap.size w w') w5 := ⟨hS.1.kept hb, hS.2.trans (hb.mono hS.2.size)⟩
      refine hK.out _ _ (fun _ => hS0) ?_
      clear hK K
      try simp only [Act.put, List.getElem_toArray, List.getElem_cons_zero, List.getElem_cons_succ, List.setIfInBounds_toArray, List.set_cons_zero, List.set_cons_succ]
      refine AnyG.one 2 (by kernel_rfl) rfl ?_
      intro K hK
      obtain ⟨V0, rfl⟩ : ∃ V0, V0 = w5 := ⟨_, rfl⟩
      go_simp
      have hE : (fun (w' : World) => w'.cell? ⟨V0.heap.size, kk, none⟩ = some (.string (Co.str (Co.knd k)))) (V0.alloc (.cells #[.string { data := #[112, 108, 97, 105, 110] }, .string { data := #[114, 114, 114] }, .string { data := #[102, 97, 110, 111] }] 9)) := (Cel.new V0 [.string { data := #[112, 108, 97, 105, 110] }, .string { data := #[114, 114, 114] }, .string { data := #[102, 97, 110, 111] }] 9).cell kk KN.out
      have hS1 : (fun w' => Cel w' gb [.int .i64 (s : Nat), .int .i64 (i : Nat), .int .i64 (l : Nat), .int .i64 (k : Nat), .int .i64 (m : Nat)] 23 ∧ Below w.heap.size w w') (V0.alloc (.cells #[.string { data := #[112, 108, 97, 105, 110] }, .string { data := #[114, 114, 114] }, .string { data := #[102, 97, 110, 111] }] 9)) := ⟨hS0.1.alloc _, hS0.2.alloc hS0.2.size _⟩
      refine hK.out _ _ (fun _ => hS1) ?_
      clear hK K
      try simp only [Act.put, List.getElem_toArray, List.getElem_cons_zero, List.getElem_cons_succ, List.setIfInBounds_toArray, List.set_cons_zero, List.set_cons_succ]
      refine AnyG.more (E := (fun (w' : World) => w'.cell? ⟨V0.heap.size, kk, none⟩ = some (.string (Co.str (Co.knd k))))) _ _ _ _ hS1 hE ?_
      have hT := And.intro hS1 hE
      generalize V0.heap.size = GG at *
      generalize V0.alloc _ = V1 at *
      refine AnyG.take 6 (v := ?vv41) rfl (by kernel_rfl) (by kernel_rfl) (by kernel_rfl) (by kernel_rfl) (fun _ _ _ h => h) hT ?hy41 (by rfl) ?rest41
      case hy41 =>
        intro w0 h0
        go_simp
        try with_reducible rfl
      simp only [Act.put, List.getElem_toArray, List.getElem_cons_zero, List.getElem_cons_succ, List.setIfInBounds_toArray, List.set_cons_zero, List.set_cons_succ]
      refine AnyG.take 7 (v := ?vv42) rfl (by kernel_rfl) (by kernel_rfl) (by kernel_rfl) (by kernel_rfl) (fun _ _ _ h => h) hT ?hy42 (by rfl) ?rest42
      case hy42 =>
        intro w0 h0
        have c0 := h0.2
        go_simp
        try with_reducible rfl
      simp only [Act.put, List.getElem_toArray, List.getElem_cons_zero, List.getElem_cons_succ, List.setIfInBounds_toArray, List.set_cons_zero, List.set_cons_succ]
      refine AnyG.take 8 (v := ?vv43) rfl (by kernel_rfl) (by kernel_rfl) (by kernel_rfl) (by kernel_rfl) (fun _ _ _ h => h) hT ?hy43 (by rfl) ?rest43
      case hy43 =>
        intro w0 h0
        go_simp
        try with_reducible rfl
      simp only [Act.put, List.getElem_toArray, List.getElem_cons_zero, List.getElem_cons_succ, List.setIfInBounds_toArray, List.set_cons_zero, List.set_cons_succ]
      refine AnyG.take 9 (v := ?vv44) rfl (by kernel_rfl) (by kernel_rfl) (by kernel_rfl) (by kernel_rfl) (fun _ _ _ h => h) hT ?hy44 (by rfl) ?rest44
      case hy44 =>
        intro w0 h0
        go_simp
        try with_reducible rfl
      simp only [Act.put, List.getElem_toArray, List.getElem_cons_zero, List.getElem_cons_succ, List.setIfInBounds_toArray, List.set_cons_zero, List.set_cons_succ]
      refine AnyG.take 13 (v := ?vv45) rfl (by kernel_rfl) (by kernel_rfl) (by kernel_rfl) (by kernel_rfl) (fun _ _ _ h => h) hT ?hy45 (by rfl) ?rest45
      case hy45 =>
        intro w0 h0
        go_simp
        try with_reducible rfl
      simp only [Act.put, List.getElem_toArray, List.getElem_cons_zero, List.getElem_cons_succ, List.setIfInBounds_toArray, List.set_cons_zero, List.set_cons_succ]
      refine AnyG.take 14 (v := ?vv46) rfl (by kernel_rfl) (by kernel_rfl) (by kernel_rfl) (by kernel_rfl) (fun _ _ _ h => h) hT ?hy46 (by rfl) ?rest46
      case hy46 =>
        intro w0 h0
        go_simp
        try with_reducible rfl
      simp only [Act.put, List.getElem_toArray, List.getElem_cons_zero, List.getElem_cons_succ, List.setIfInBounds_toArray, List.set_cons_zero, List.set_cons_succ]
      refine AnyG.done (by kernel_rfl) ?_ _
      go_wp2
      go_ret
      rw [RN.out]
      exact ⟨rfl, hT.1.2⟩
end Go.Proofs.YtadfnllfeoidhaaDoor
