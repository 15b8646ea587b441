/-
  The contract of the program's Name.
-/
import Derived.Test.YtadfnllfeoidhaaDoorKp
import Derived.Test.YtadfnllfeoidhaaDoorKr
import Derived.Test.YtadfnllfeoidhaaDoorKs
import Derived.Test.YtadfnllfeoidhaaDoorCi
namespace Go.Proofs.YtadfnllfeoidhaaDoor
open Go.RowKit
set_option linter.unusedVariables false
set_option linter.unusedSimpArgs false
set_option maxRecDepth 100000

namespace Mp
theorem uni_sh : Uni shL := by unfold Uni shL; decide
theorem uni_kd : Uni kdL := by unfold Uni kdL; decide
theorem nmo_sh (n : Nat) (h1 : 1 ≤ n) (h2 : n ≤ 3) : nmo shL (n : Nat) = Co.shp n := by
  have key : n = 1 ∨ n = 2 ∨ n = 3 := by omega
  rcases key with rfl | rfl | rfl <;> rfl
theorem nmo_boost : nmo shL 4 = [98, 111, 111, 115, 116] := rfl
theorem nmo_kd (n : Nat) (h1 : 1 ≤ n) (h2 : n ≤ 3) : nmo kdL (n : Nat) = Co.knd n := by
  have key : n = 1 ∨ n = 2 ∨ n = 3 := by omega
  rcases key with rfl | rfl | rfl <;> rfl
end Mp
set_option maxHeartbeats 8000000 in
theorem kname_n (s i l k m : Nat) (hok : Co.ok (s, i, l, k, m) = true) (w : World) :
    Calls Tryd.prog 10 #[.agg #[.int .i64 (s : Nat), .int .i64 (i : Nat), .int .i64 (l : Nat), .int .i64 (k : Nat), .int .i64 (m : Nat)]] w fun e w' => e = .returned (.string (Co.str (Co.nm (s, i, l, k, m)))) ∧ Below w.heap.size w w' := by
  have HOK := hide hok
  unfold Co.ok at hok
  simp only [Bool.and_eq_true, Co.ble_dec, Co.beq_dec, decide_eq_true_eq] at hok
  obtain ⟨hs1, hs4, hk1, hk3, hm, hrest⟩ := hok
  have hm99 : m ≤ 64 := by
    unfold Co.inB at hm
    rw [List.any_eq_true] at hm
    obtain ⟨x, hx, e⟩ := hm
    rw [Nat.beq_eq] at e
    subst e
    have : ∀ y ∈ Co.sam, y ≤ 64 := by decide
    exact this x hx
  have KC : Hid (∀ w0, Calls Tryd.prog 7 #[.agg #[.int .i64 (s : Nat), .int .i64 (i : Nat), .int .i64 (l : Nat), .int .i64 (k : Nat), .int .i64 (m : Nat)]] w0 fun e w' => e = .returned (.bool true) ∧ Below w0.heap.size w0 w') := fun w0 => by
    have := kcheck_c s i l k m w0
    rwa [show Co.okZ ((s : Int), (i : Int), (l : Int), (k : Int), (m : Int)) = true from (Co.okZ_nat (s, i, l, k, m)).trans HOK.out] at this
  have KD := hide (fun w0 => kitoa_c m (by omega) w0)
  have KS := hide kshapes_c
  have KK := hide kkinds_c
  have KNK : Hid (∀ (w0 : World) g, Mp.Is w0 g Mp.kdL → Calls Tryd.prog 21 #[.int .i64 (k : Nat), .map (some g)] w0 fun e w' => e = .returned (.string (Co.str (Co.knd k))) ∧ Below w0.heap.size w0 w') := fun w0 g h => by
    have := knameof_c (k : Nat) Mp.kdL g w0 h Mp.uni_kd
    rwa [Mp.nmo_kd k hk1 hk3] at this
  have L1 := Co.knd_len k
  have L2 := Co.dg_len m
  obtain ⟨W, hW⟩ : ∃ W, W = w.alloc (.cells #[.int .i64 (s : Nat), .int .i64 (i : Nat), .int .i64 (l : Nat), .int .i64 (k : Nat), .int .i64 (m : Nat)] 23) := ⟨_, rfl⟩
  have HB0 : Hid (Below w.heap.size w W) := by rw [hW]; exact below_alloc w _
  have HC : Hid (Cel W w.heap.size [.int .i64 (s : Nat), .int .i64 (i : Nat), .int .i64 (l : Nat), .int .i64 (k : Nat), .int .i64 (m : Nat)] 23) := by rw [hW]; exact Cel.new w _ _
  have HW := hide hW
  obtain ⟨gb, hgb⟩ : ∃ gb, Hid (gb = w.heap.size) := ⟨_, rfl⟩
  rw [← hgb.out] at HC
  have c0 := HC.out.cell 0 rfl
  have c1 := HC.out.cell 1 rfl
  have c2 := HC.out.cell 2 rfl
  have c3 := HC.out.cell 3 rfl
  have c4 := HC.out.cell 4 rfl
  clear hW hm
  by_cases h4 : s = 4
  · have hsz : ((s : Nat) : Int) = 4 := by omega
    have h4n := hide h4
    rw [decide_eq_true h4] at hrest
    rw [hsz] at HW HC c0 KC ⊢
    clear h4 hsz hs1 hs4
    simp only [cond_true, Bool.and_eq_true, decide_eq_true_eq] at hrest
    obtain ⟨hi1, hi3, hl⟩ := hrest
    have hl12 : l ≤ 12 := by
      unfold Co.inB at hl
      rw [List.any_eq_true] at hl
      obtain ⟨x, hx, e⟩ := hl
      rw [Nat.beq_eq] at e
      subst e
      have : ∀ y ∈ Co.lgs, y ≤ 12 := by decide
      exact this x hx
    have KNS : Hid (∀ (w0 : World) g, Mp.Is w0 g Mp.shL → Calls Tryd.prog 21 #[.int .i64 4, .map (some g)] w0 fun e w' => e = .returned (.string (Co.str [98, 111, 111, 115, 116])) ∧ Below w0.heap.size w0 w') := fun w0 g h => by
      have := knameof_c 4 Mp.shL g w0 h Mp.uni_sh
      rwa [Mp.nmo_boost] at this
    have KNI : Hid (∀ (w0 : World) g, Mp.Is w0 g Mp.shL → Calls Tryd.prog 21 #[.int .i64 (i : Nat), .map (some g)] w0 fun e w' => e = .returned (.string (Co.str (Co.shp i))) ∧ Below w0.heap.size w0 w') := fun w0 g h => by
      have := knameof_c (i : Nat) Mp.shL g w0 h Mp.uni_sh
      rwa [Mp.nmo_sh i hi1 hi3] at this
    have KG := hide (fun w0 => kitoa_c l (by omega) w0)
    have L3 := Co.shp_len i
    have L4 := Co.dg_len l
    obtain ⟨bo, hbo⟩ : ∃ bo, Hid ([98, 111, 111, 115, 116] = bo) := ⟨[98, 111, 111, 115, 116], (rfl : [98, 111, 111, 115, 116] = _)⟩
    have L5 : bo.length = 5 := by rw [← hbo.out]; rfl
    obtain ⟨q1, hq1⟩ : ∃ q1, Hid ([45] ++ Co.shp i = q1) := ⟨[45] ++ Co.shp i, (rfl : [45] ++ Co.shp i = _)⟩
    obtain ⟨q2, hq2⟩ : ∃ q2, Hid (q1 ++ [45] = q2) := ⟨q1 ++ [45], (rfl : q1 ++ [45] = _)⟩
    obtain ⟨q3, hq3⟩ : ∃ q3, Hid (q2 ++ Co.dg l = q3) := ⟨_, rfl⟩
    obtain ⟨pre, hpre⟩ : ∃ pre, Hid (bo ++ q3 = pre) := ⟨_, rfl⟩
    have m1 : q1.length ≤ 7 := by rw [← hq1.out, List.length_append]; simp; omega
    have m2 : q2.length ≤ 8 := by rw [← hq2.out, List.length_append]; simp; omega
    have m3 : q3.length ≤ 10 := by rw [← hq3.out, List.length_append]; omega
    have LP : pre.length ≤ 16 := by rw [← hpre.out, List.length_append]; omega
    have U1 : Op.stringOp .add { data := #[45] } (Co.str (Co.shp i)) = pure (.string (Co.str q1)) := by
      have := Co.add_str [45] (Co.shp i) (by simp; omega)
      rw [hq1.out] at this
      exact this
    have U2 : Op.stringOp .add (Co.str q1) { data := #[45] } = pure (.string (Co.str q2)) := by
      have := Co.add_str q1 [45] (by simp; omega)
      rw [hq2.out] at this
      exact this
    have U3 : Op.stringOp .add (Co.str q2) (Co.str (Co.dg l)) = pure (.string (Co.str q3)) := by
      have := Co.add_str q2 (Co.dg l) (by omega)
      rw [hq3.out] at this
      exact this
    have U4 : Op.stringOp .add (Co.str bo) (Co.str q3) = pure (.string (Co.str pre)) := by
      have := Co.add_str bo q3 (by omega)
      rw [hpre.out] at this
      exact this
    obtain ⟨p1, hp1⟩ : ∃ p1, Hid (pre ++ [47] = p1) := ⟨pre ++ [47], (rfl : pre ++ [47] = pre ++ [47])⟩
    obtain ⟨p2, hp2⟩ : ∃ p2, Hid (p1 ++ Co.knd k = p2) := ⟨_, rfl⟩
    obtain ⟨p3, hp3⟩ : ∃ p3, Hid (p2 ++ [47] = p3) := ⟨p2 ++ [47], (rfl : p2 ++ [47] = p2 ++ [47])⟩
    have k1 : p1.length ≤ 17 := by rw [← hp1.out, List.length_append]; simp; omega
    have k2 : p2.length ≤ 22 := by rw [← hp2.out, List.length_append]; omega
    have k3 : p3.length ≤ 23 := by rw [← hp3.out, List.length_append]; simp; omega
    have V1 : Op.stringOp .add (Co.str pre) { data := #[47] } = pure (.string (Co.str p1)) := by
      have := Co.add_str pre [47] (by simp; omega)
      rw [hp1.out] at this
      exact this
    have V2 : Op.stringOp .add (Co.str p1) (Co.str (Co.knd k)) = pure (.string (Co.str p2)) := by
      have := Co.add_str p1 (Co.knd k) (by omega)
      rw [hp2.out] at this
      exact this
    have V3 : Op.stringOp .add (Co.str p2) { data := #[47] } = pure (.string (Co.str p3)) := by
      have := Co.add_str p2 [47] (by simp; omega)
      rw [hp3.out] at this
      exact this
    have V4 : Op.stringOp .add (Co.str p3) (Co.str (Co.dg m)) = pure (.string (Co.str (p3 ++ Co.dg m))) := Co.add_str p3 (Co.dg m) (by omega)
    have RN : Hid (Co.nm (s, i, l, k, m) = p3 ++ Co.dg m) := by
      rw [h4n.out]
      rw [← hp3.out, ← hp2.out, ← hp1.out, ← hpre.out, ← hq3.out, ← hq2.out, ← hq1.out, ← hbo.out]
      show Co.nm _ = _
      unfold Co.nm
      simp
    rw [hbo.out] at KNS
    go_enter Tryd.func10, Tryd.ntmps10
    go_wp2_with fail
    rw [← HW.out, ← hgb.out]
    refine (KC.out _).mono ?_
    rintro e w1 ⟨rfl, hb⟩
    have HC1 : Hid (Cel w1 gb [.int .i64 4, .int .i64 (i : Nat), .int .i64 (l : Nat), .int .i64 (k : Nat), .int .i64 (m : Nat)] 23) := HC.out.kept hb
    have HB1 := hide (HB0.out.trans (hb.mono HB0.out.size))
    clear hb c0 c1 c2 c3 c4 HC HB0
    go_wp2
    refine region_g [] (fun w' => Cel w' gb [.int .i64 4, .int .i64 (i : Nat), .int .i64 (l : Nat), .int .i64 (k : Nat), .int .i64 (m : Nat)] 23 ∧ Below w.heap.size w w') (by kernel_rfl) ?_
    have hS : (fun w' => Cel w' gb [.int .i64 4, .int .i64 (i : Nat), .int .i64 (l : Nat), .int .i64 (k : Nat), .int .i64 (m : Nat)] 23 ∧ Below w.heap.size w w') w1.drew := ⟨HC1.out.drew, HB1.out.drew⟩
    generalize w1.drew = V at *
    refine AnyG.take 0 (v := ?vv1) rfl (by kernel_rfl) (by kernel_rfl) (by kernel_rfl) (by kernel_rfl) (fun _ _ _ h => h) hS ?hy1 (by rfl) ?rest1
    case hy1 =>
      intro w0 h0
      go_simp
      try with_reducible rfl
    simp only [Act.put, List.getElem_toArray, List.getElem_cons_zero, List.getElem_cons_succ, List.setIfInBounds_toArray, List.set_cons_zero, List.set_cons_succ]
    refine AnyG.take 1 (v := ?vv2) rfl (by kernel_rfl) (by kernel_rfl) (by kernel_rfl) (by kernel_rfl) (fun _ _ _ h => h) hS ?hy2 (by rfl) ?rest2
    case hy2 =>
      intro w0 h0
      have c0 := h0.1.cell 0 rfl
      go_simp
      try with_reducible rfl
    simp only [Act.put, List.getElem_toArray, List.getElem_cons_zero, List.getElem_cons_succ, List.setIfInBounds_toArray, List.set_cons_zero, List.set_cons_succ]
    refine AnyG.one 2 (by kernel_rfl) rfl ?_
    intro K hK
    go_simp
    refine (KS.out _).mono ?_
    rintro e w2 ⟨g, rfl, hI, hg, hb⟩
    have hSa : (fun w' => Cel w' gb [.int .i64 4, .int .i64 (i : Nat), .int .i64 (l : Nat), .int .i64 (k : Nat), .int .i64 (m : Nat)] 23 ∧ Below w.heap.size w w') w2 := ⟨hS.1.kept hb, hS.2.trans (hb.mono hS.2.size)⟩
    have CN := hide (KNS.out w2 g hI)
    clear hb hI hg hS
    refine hK.out _ _ (fun _ => hSa) ?_
    clear hK K
    try simp only [Act.put, List.getElem_toArray, List.getElem_cons_zero, List.getElem_cons_succ, List.setIfInBounds_toArray, List.set_cons_zero, List.set_cons_succ]
    refine AnyG.one 3 (by kernel_rfl) rfl ?_
    intro K hK
    go_simp
    refine (CN.out).mono ?_
    rintro e w3 ⟨rfl, hb⟩
    have hSb : (fun w' => Cel w' gb [.int .i64 4, .int .i64 (i : Nat), .int .i64 (l : Nat), .int .i64 (k : Nat), .int .i64 (m : Nat)] 23 ∧ Below w.heap.size w w') w3 := ⟨hSa.1.kept hb, hSa.2.trans (hb.mono hSa.2.size)⟩
    clear hb hSa CN
    refine hK.out _ _ (fun _ => hSb) ?_
    clear hK K
    try simp only [Act.put, List.getElem_toArray, List.getElem_cons_zero, List.getElem_cons_succ, List.setIfInBounds_toArray, List.set_cons_zero, List.set_cons_succ]
    refine AnyG.take 4 (v := ?vv3) rfl (by kernel_rfl) (by kernel_rfl) (by kernel_rfl) (by kernel_rfl) (fun _ _ _ h => h) hSb ?hy3 (by rfl) ?rest3
    case hy3 =>
      intro w0 h0
      go_simp
      try with_reducible rfl
    simp only [Act.put, List.getElem_toArray, List.getElem_cons_zero, List.getElem_cons_succ, List.setIfInBounds_toArray, List.set_cons_zero, List.set_cons_succ]
    refine AnyG.done (by kernel_rfl) ?_ _
    have c0 := hSb.1.cell 0 rfl
    go_wp2
    clear c0
    obtain ⟨hS3, hSb⟩ : True ∧ Hid ((fun w' => Cel w' gb [.int .i64 4, .int .i64 (i : Nat), .int .i64 (l : Nat), .int .i64 (k : Nat), .int .i64 (m : Nat)] 23 ∧ Below w.heap.size w w') w3) := ⟨trivial, hSb⟩
    refine region_g [] (fun w' => Cel w' gb [.int .i64 4, .int .i64 (i : Nat), .int .i64 (l : Nat), .int .i64 (k : Nat), .int .i64 (m : Nat)] 23 ∧ Below w.heap.size w w') (by kernel_rfl) ?_
    have hS : (fun w' => Cel w' gb [.int .i64 4, .int .i64 (i : Nat), .int .i64 (l : Nat), .int .i64 (k : Nat), .int .i64 (m : Nat)] 23 ∧ Below w.heap.size w w') w3.drew := ⟨hSb.1.drew, hSb.2.drew⟩
    generalize w3.drew = V at *
    refine AnyG.take 0 (v := ?vv7) rfl (by kernel_rfl) (by kernel_rfl) (by kernel_rfl) (by kernel_rfl) (fun _ _ _ h => h) hS ?hy7 (by rfl) ?rest7
    case hy7 =>
      intro w0 h0
      go_simp
      try with_reducible rfl
    simp only [Act.put, List.getElem_toArray, List.getElem_cons_zero, List.getElem_cons_succ, List.setIfInBounds_toArray, List.set_cons_zero, List.set_cons_succ]
    refine AnyG.take 1 (v := ?vv8) rfl (by kernel_rfl) (by kernel_rfl) (by kernel_rfl) (by kernel_rfl) (fun _ _ _ h => h) hS ?hy8 (by rfl) ?rest8
    case hy8 =>
      intro w0 h0
      go_simp
      try with_reducible rfl
    simp only [Act.put, List.getElem_toArray, List.getElem_cons_zero, List.getElem_cons_succ, List.setIfInBounds_toArray, List.set_cons_zero, List.set_cons_succ]
    refine AnyG.take 2 (v := ?vv9) rfl (by kernel_rfl) (by kernel_rfl) (by kernel_rfl) (by kernel_rfl) (fun _ _ _ h => h) hS ?hy9 (by rfl) ?rest9
    case hy9 =>
      intro w0 h0
      have c0 := h0.1.cell 1 rfl
      go_simp
      try with_reducible rfl
    simp only [Act.put, List.getElem_toArray, List.getElem_cons_zero, List.getElem_cons_succ, List.setIfInBounds_toArray, List.set_cons_zero, List.set_cons_succ]
    refine AnyG.take 7 (v := ?vv10) rfl (by kernel_rfl) (by kernel_rfl) (by kernel_rfl) (by kernel_rfl) (fun _ _ _ h => h) hS ?hy10 (by rfl) ?rest10
    case hy10 =>
      intro w0 h0
      go_simp
      try with_reducible rfl
    simp only [Act.put, List.getElem_toArray, List.getElem_cons_zero, List.getElem_cons_succ, List.setIfInBounds_toArray, List.set_cons_zero, List.set_cons_succ]
    refine AnyG.take 8 (v := ?vv11) rfl (by kernel_rfl) (by kernel_rfl) (by kernel_rfl) (by kernel_rfl) (fun _ _ _ h => h) hS ?hy11 (by rfl) ?rest11
    case hy11 =>
      intro w0 h0
      have c0 := h0.1.cell 2 rfl
      go_simp
      try with_reducible rfl
    simp only [Act.put, List.getElem_toArray, List.getElem_cons_zero, List.getElem_cons_succ, List.setIfInBounds_toArray, List.set_cons_zero, List.set_cons_succ]
    refine AnyG.one 3 (by kernel_rfl) rfl ?_
    intro K hK
    go_simp
    refine (KS.out _).mono ?_
    rintro e w2 ⟨g, rfl, hI, hg, hb⟩
    have hSa : (fun w' => Cel w' gb [.int .i64 4, .int .i64 (i : Nat), .int .i64 (l : Nat), .int .i64 (k : Nat), .int .i64 (m : Nat)] 23 ∧ Below w.heap.size w w') w2 := ⟨hS.1.kept hb, hS.2.trans (hb.mono hS.2.size)⟩
    have CN := hide (KNI.out w2 g hI)
    clear hb hI hg hS
    refine hK.out _ _ (fun _ => hSa) ?_
    clear hK K
    try simp only [Act.put, List.getElem_toArray, List.getElem_cons_zero, List.getElem_cons_succ, List.setIfInBounds_toArray, List.set_cons_zero, List.set_cons_succ]
    refine AnyG.one 4 (by kernel_rfl) rfl ?_
    intro K hK
    go_simp
    refine (CN.out).mono ?_
    rintro e w3 ⟨rfl, hb⟩
    have hSb : (fun w' => Cel w' gb [.int .i64 4, .int .i64 (i : Nat), .int .i64 (l : Nat), .int .i64 (k : Nat), .int .i64 (m : Nat)] 23 ∧ Below w.heap.size w w') w3 := ⟨hSa.1.kept hb, hSa.2.trans (hb.mono hSa.2.size)⟩
    clear hb hSa CN
    refine hK.out _ _ (fun _ => hSb) ?_
    clear hK K
    try simp only [Act.put, List.getElem_toArray, List.getElem_cons_zero, List.getElem_cons_succ, List.setIfInBounds_toArray, List.set_cons_zero, List.set_cons_succ]
    refine AnyG.take 5 (v := ?vv12) rfl (by kernel_rfl) (by kernel_rfl) (by kernel_rfl) (by kernel_rfl) (fun _ _ _ h => h) hSb ?hy12 (by rfl) ?rest12
    case hy12 =>
      intro w0 h0
      go_simp
      try with_reducible rfl
    simp only [Act.put, List.getElem_toArray, List.getElem_cons_zero, List.getElem_cons_succ, List.setIfInBounds_toArray, List.set_cons_zero, List.set_cons_succ]
    refine AnyG.take 6 (v := ?vv13) rfl (by kernel_rfl) (by kernel_rfl) (by kernel_rfl) (by kernel_rfl) (fun _ _ _ h => h) hSb ?hy13 (by rfl) ?rest13
    case hy13 =>
      intro w0 h0
      go_simp
      try with_reducible rfl
    simp only [Act.put, List.getElem_toArray, List.getElem_cons_zero, List.getElem_cons_succ, List.setIfInBounds_toArray, List.set_cons_zero, List.set_cons_succ]
    refine AnyG.one 9 (by kernel_rfl) rfl ?_
    intro K hK
    go_simp
    refine (KG.out _).mono ?_
    rintro e w4 ⟨rfl, rfl⟩
    refine hK.out _ _ (fun _ => hSb) ?_
    clear hK K
    try simp only [Act.put, List.getElem_toArray, List.getElem_cons_zero, List.getElem_cons_succ, List.setIfInBounds_toArray, List.set_cons_zero, List.set_cons_succ]
    refine AnyG.take 10 (v := ?vv14) rfl (by kernel_rfl) (by kernel_rfl) (by kernel_rfl) (by kernel_rfl) (fun _ _ _ h => h) hSb ?hy14 (by rfl) ?rest14
    case hy14 =>
      intro w0 h0
      go_simp
      try with_reducible rfl
    simp only [Act.put, List.getElem_toArray, List.getElem_cons_zero, List.getElem_cons_succ, List.setIfInBounds_toArray, List.set_cons_zero, List.set_cons_succ]
    refine AnyG.take 11 (v := ?vv15) rfl (by kernel_rfl) (by kernel_rfl) (by kernel_rfl) (by kernel_rfl) (fun _ _ _ h => h) hSb ?hy15 (by rfl) ?rest15
    case hy15 =>
      intro w0 h0
      go_simp
      try with_reducible rfl
    simp only [Act.put, List.getElem_toArray, List.getElem_cons_zero, List.getElem_cons_succ, List.setIfInBounds_toArray, List.set_cons_zero, List.set_cons_succ]
    refine AnyG.take 12 (v := ?vv16) rfl (by kernel_rfl) (by kernel_rfl) (by kernel_rfl) (by kernel_rfl) (fun _ _ _ h => h) hSb ?hy16 (by rfl) ?rest16
    case hy16 =>
      intro w0 h0
      go_simp
      try with_reducible rfl
    simp only [Act.put, List.getElem_toArray, List.getElem_cons_zero, List.getElem_cons_succ, List.setIfInBounds_toArray, List.set_cons_zero, List.set_cons_succ]
    refine AnyG.done (by kernel_rfl) ?_ _
    obtain ⟨hS5, hSb⟩ : True ∧ Hid ((fun w' => Cel w' gb [.int .i64 4, .int .i64 (i : Nat), .int .i64 (l : Nat), .int .i64 (k : Nat), .int .i64 (m : Nat)] 23 ∧ Below w.heap.size w w') w4) := ⟨trivial, hSb⟩
    go_wp2
    refine region_g [] (fun w' => Cel w' gb [.int .i64 4, .int .i64 (i : Nat), .int .i64 (l : Nat), .int .i64 (k : Nat), .int .i64 (m : Nat)] 23 ∧ Below w.heap.size w w') (by kernel_rfl) ?_
    have hS : (fun w' => Cel w' gb [.int .i64 4, .int .i64 (i : Nat), .int .i64 (l : Nat), .int .i64 (k : Nat), .int .i64 (m : Nat)] 23 ∧ Below w.heap.size w w') w4.drew := ⟨hSb.1.drew, hSb.2.drew⟩
    generalize w4.drew = V at *
    refine AnyG.take 0 (v := ?vv17) rfl (by kernel_rfl) (by kernel_rfl) (by kernel_rfl) (by kernel_rfl) (fun _ _ _ h => h) hS ?hy17 (by rfl) ?rest17
    case hy17 =>
      intro w0 h0
      go_simp
      try with_reducible rfl
    simp only [Act.put, List.getElem_toArray, List.getElem_cons_zero, List.getElem_cons_succ, List.setIfInBounds_toArray, List.set_cons_zero, List.set_cons_succ]
    refine AnyG.take 1 (v := ?vv18) rfl (by kernel_rfl) (by kernel_rfl) (by kernel_rfl) (by kernel_rfl) (fun _ _ _ h => h) hS ?hy18 (by rfl) ?rest18
    case hy18 =>
      intro w0 h0
      go_simp
      try with_reducible rfl
    simp only [Act.put, List.getElem_toArray, List.getElem_cons_zero, List.getElem_cons_succ, List.setIfInBounds_toArray, List.set_cons_zero, List.set_cons_succ]
    refine AnyG.take 2 (v := ?vv19) rfl (by kernel_rfl) (by kernel_rfl) (by kernel_rfl) (by kernel_rfl) (fun _ _ _ h => h) hS ?hy19 (by rfl) ?rest19
    case hy19 =>
      intro w0 h0
      go_simp
      try with_reducible rfl
    simp only [Act.put, List.getElem_toArray, List.getElem_cons_zero, List.getElem_cons_succ, List.setIfInBounds_toArray, List.set_cons_zero, List.set_cons_succ]
    refine AnyG.take 3 (v := ?vv20) rfl (by kernel_rfl) (by kernel_rfl) (by kernel_rfl) (by kernel_rfl) (fun _ _ _ h => h) hS ?hy20 (by rfl) ?rest20
    case hy20 =>
      intro w0 h0
      have c0 := h0.1.cell 3 rfl
      go_simp
      try with_reducible rfl
    simp only [Act.put, List.getElem_toArray, List.getElem_cons_zero, List.getElem_cons_succ, List.setIfInBounds_toArray, List.set_cons_zero, List.set_cons_succ]
    refine AnyG.take 8 (v := ?vv21) rfl (by kernel_rfl) (by kernel_rfl) (by kernel_rfl) (by kernel_rfl) (fun _ _ _ h => h) hS ?hy21 (by rfl) ?rest21
    case hy21 =>
      intro w0 h0
      go_simp
      try with_reducible rfl
    simp only [Act.put, List.getElem_toArray, List.getElem_cons_zero, List.getElem_cons_succ, List.setIfInBounds_toArray, List.set_cons_zero, List.set_cons_succ]
    refine AnyG.take 9 (v := ?vv22) rfl (by kernel_rfl) (by kernel_rfl) (by kernel_rfl) (by kernel_rfl) (fun _ _ _ h => h) hS ?hy22 (by rfl) ?rest22
    case hy22 =>
      intro w0 h0
      have c0 := h0.1.cell 4 rfl
      go_simp
      try with_reducible rfl
    simp only [Act.put, List.getElem_toArray, List.getElem_cons_zero, List.getElem_cons_succ, List.setIfInBounds_toArray, List.set_cons_zero, List.set_cons_succ]
    refine AnyG.one 4 (by kernel_rfl) rfl ?_
    intro K hK
    go_simp
    refine (KK.out _).mono ?_
    rintro e w2 ⟨g, rfl, hI, hg, hb⟩
    have hSa : (fun w' => Cel w' gb [.int .i64 4, .int .i64 (i : Nat), .int .i64 (l : Nat), .int .i64 (k : Nat), .int .i64 (m : Nat)] 23 ∧ Below w.heap.size w w') w2 := ⟨hS.1.kept hb, hS.2.trans (hb.mono hS.2.size)⟩
    have CN := hide (KNK.out w2 g hI)
    clear hb hI hg hS
    refine hK.out _ _ (fun _ => hSa) ?_
    clear hK K
    try simp only [Act.put, List.getElem_toArray, List.getElem_cons_zero, List.getElem_cons_succ, List.setIfInBounds_toArray, List.set_cons_zero, List.set_cons_succ]
    refine AnyG.one 5 (by kernel_rfl) rfl ?_
    intro K hK
    go_simp
    refine (CN.out).mono ?_
    rintro e w3 ⟨rfl, hb⟩
    have hSb : (fun w' => Cel w' gb [.int .i64 4, .int .i64 (i : Nat), .int .i64 (l : Nat), .int .i64 (k : Nat), .int .i64 (m : Nat)] 23 ∧ Below w.heap.size w w') w3 := ⟨hSa.1.kept hb, hSa.2.trans (hb.mono hSa.2.size)⟩
    clear hb hSa CN
    refine hK.out _ _ (fun _ => hSb) ?_
    clear hK K
    try simp only [Act.put, List.getElem_toArray, List.getElem_cons_zero, List.getElem_cons_succ, List.setIfInBounds_toArray, List.set_cons_zero, List.set_cons_succ]
    refine AnyG.take 6 (v := ?vv23) rfl (by kernel_rfl) (by kernel_rfl) (by kernel_rfl) (by kernel_rfl) (fun _ _ _ h => h) hSb ?hy23 (by rfl) ?rest23
    case hy23 =>
      intro w0 h0
      go_simp
      try with_reducible rfl
    simp only [Act.put, List.getElem_toArray, List.getElem_cons_zero, List.getElem_cons_succ, List.setIfInBounds_toArray, List.set_cons_zero, List.set_cons_succ]
    refine AnyG.take 7 (v := ?vv24) rfl (by kernel_rfl) (by kernel_rfl) (by kernel_rfl) (by kernel_rfl) (fun _ _ _ h => h) hSb ?hy24 (by rfl) ?rest24
    case hy24 =>
      intro w0 h0
      go_simp
      try with_reducible rfl
    simp only [Act.put, List.getElem_toArray, List.getElem_cons_zero, List.getElem_cons_succ, List.setIfInBounds_toArray, List.set_cons_zero, List.set_cons_succ]
    refine AnyG.one 10 (by kernel_rfl) rfl ?_
    intro K hK
    go_simp
    refine (KD.out _).mono ?_
    rintro e w4 ⟨rfl, rfl⟩
    refine hK.out _ _ (fun _ => hSb) ?_
    clear hK K
    try simp only [Act.put, List.getElem_toArray, List.getElem_cons_zero, List.getElem_cons_succ, List.setIfInBounds_toArray, List.set_cons_zero, List.set_cons_succ]
    refine AnyG.take 11 (v := ?vv25) rfl (by kernel_rfl) (by kernel_rfl) (by kernel_rfl) (by kernel_rfl) (fun _ _ _ h => h) hSb ?hy25 (by rfl) ?rest25
    case hy25 =>
      intro w0 h0
      go_simp
      try with_reducible rfl
    simp only [Act.put, List.getElem_toArray, List.getElem_cons_zero, List.getElem_cons_succ, List.setIfInBounds_toArray, List.set_cons_zero, List.set_cons_succ]
    refine AnyG.take 12 (v := ?vv26) rfl (by kernel_rfl) (by kernel_rfl) (by kernel_rfl) (by kernel_rfl) (fun _ _ _ h => h) hSb ?hy26 (by rfl) ?rest26
    case hy26 =>
      intro w0 h0
      go_simp
      try with_reducible rfl
    simp only [Act.put, List.getElem_toArray, List.getElem_cons_zero, List.getElem_cons_succ, List.setIfInBounds_toArray, List.set_cons_zero, List.set_cons_succ]
    refine AnyG.done (by kernel_rfl) ?_ _
    go_wp2
    go_ret
    rw [RN.out]
    exact ⟨rfl, hSb.2⟩
  · have h4z : ((s : Int) == 4) = false := by simp; omega
    have hs3 : s ≤ 3 := by omega
    have HS4 := hide h4
    have KNS : Hid (∀ (w0 : World) g, Mp.Is w0 g Mp.shL → Calls Tryd.prog 21 #[.int .i64 (s : Nat), .map (some g)] w0 fun e w' => e = .returned (.string (Co.str (Co.shp s))) ∧ Below w0.heap.size w0 w') := fun w0 g h => by
      have := knameof_c (s : Nat) Mp.shL g w0 h Mp.uni_sh
      rwa [Mp.nmo_sh s hs1 hs3] at this
    obtain ⟨pre, hpre⟩ : ∃ pre, Hid (Co.shp s = pre) := ⟨_, rfl⟩
    have LP : pre.length ≤ 16 := by rw [← hpre.out]; have := Co.shp_len s; omega
    rw [hpre.out] at KNS
    obtain ⟨p1, hp1⟩ : ∃ p1, Hid (pre ++ [47] = p1) := ⟨pre ++ [47], (rfl : pre ++ [47] = pre ++ [47])⟩
    obtain ⟨p2, hp2⟩ : ∃ p2, Hid (p1 ++ Co.knd k = p2) := ⟨_, rfl⟩
    obtain ⟨p3, hp3⟩ : ∃ p3, Hid (p2 ++ [47] = p3) := ⟨p2 ++ [47], (rfl : p2 ++ [47] = p2 ++ [47])⟩
    have k1 : p1.length ≤ 17 := by rw [← hp1.out, List.length_append]; simp; omega
    have k2 : p2.length ≤ 22 := by rw [← hp2.out, List.length_append]; omega
    have k3 : p3.length ≤ 23 := by rw [← hp3.out, List.length_append]; simp; omega
    have V1 : Op.stringOp .add (Co.str pre) { data := #[47] } = pure (.string (Co.str p1)) := by
      have := Co.add_str pre [47] (by simp; omega)
      rw [hp1.out] at this
      exact this
    have V2 : Op.stringOp .add (Co.str p1) (Co.str (Co.knd k)) = pure (.string (Co.str p2)) := by
      have := Co.add_str p1 (Co.knd k) (by omega)
      rw [hp2.out] at this
      exact this
    have V3 : Op.stringOp .add (Co.str p2) { data := #[47] } = pure (.string (Co.str p3)) := by
      have := Co.add_str p2 [47] (by simp; omega)
      rw [hp3.out] at this
      exact this
    have V4 : Op.stringOp .add (Co.str p3) (Co.str (Co.dg m)) = pure (.string (Co.str (p3 ++ Co.dg m))) := Co.add_str p3 (Co.dg m) (by omega)
    have RN : Hid (Co.nm (s, i, l, k, m) = p3 ++ Co.dg m) := by
      rw [← hp3.out, ← hp2.out, ← hp1.out, ← hpre.out]
      show Co.nm _ = _
      unfold Co.nm
      rw [Co.beq_dec, decide_eq_false HS4.out]
      simp
    clear h4 hrest
    go_enter Tryd.func10, Tryd.ntmps10
    go_wp2_with fail
    rw [← HW.out, ← hgb.out]
    refine (KC.out _).mono ?_
    rintro e w1 ⟨rfl, hb⟩
    have HC1 := hide (HC.out.kept hb)
    have HB1 := hide (HB0.out.trans (hb.mono HB0.out.size))
    clear hb c0 c1 c2 c3 c4 HC HB0
    go_wp2
    refine region_g [] (fun w' => Cel w' gb [.int .i64 (s : Nat), .int .i64 (i : Nat), .int .i64 (l : Nat), .int .i64 (k : Nat), .int .i64 (m : Nat)] 23 ∧ Below w.heap.size w w') (by kernel_rfl) ?_
    have hS : (fun w' => Cel w' gb [.int .i64 (s : Nat), .int .i64 (i : Nat), .int .i64 (l : Nat), .int .i64 (k : Nat), .int .i64 (m : Nat)] 23 ∧ Below w.heap.size w w') w1.drew := ⟨HC1.out.drew, HB1.out.drew⟩
    generalize w1.drew = V at *
    refine AnyG.take 0 (v := ?vv4) rfl (by kernel_rfl) (by kernel_rfl) (by kernel_rfl) (by kernel_rfl) (fun _ _ _ h => h) hS ?hy4 (by rfl) ?rest4
    case hy4 =>
      intro w0 h0
      go_simp
      try with_reducible rfl
    simp only [Act.put, List.getElem_toArray, List.getElem_cons_zero, List.getElem_cons_succ, List.setIfInBounds_toArray, List.set_cons_zero, List.set_cons_succ]
    refine AnyG.take 1 (v := ?vv5) rfl (by kernel_rfl) (by kernel_rfl) (by kernel_rfl) (by kernel_rfl) (fun _ _ _ h => h) hS ?hy5 (by rfl) ?rest5
    case hy5 =>
      intro w0 h0
      have c0 := h0.1.cell 0 rfl
      go_simp
      try with_reducible rfl
    simp only [Act.put, List.getElem_toArray, List.getElem_cons_zero, List.getElem_cons_succ, List.setIfInBounds_toArray, List.set_cons_zero, List.set_cons_succ]
    refine AnyG.one 2 (by kernel_rfl) rfl ?_
    intro K hK
    go_simp
    refine (KS.out _).mono ?_
    rintro e w2 ⟨g, rfl, hI, hg, hb⟩
    have hSa : (fun w' => Cel w' gb [.int .i64 (s : Nat), .int .i64 (i : Nat), .int .i64 (l : Nat), .int .i64 (k : Nat), .int .i64 (m : Nat)] 23 ∧ Below w.heap.size w w') w2 := ⟨hS.1.kept hb, hS.2.trans (hb.mono hS.2.size)⟩
    have CN := hide (KNS.out w2 g hI)
    clear hb hI hg hS
    refine hK.out _ _ (fun _ => hSa) ?_
    clear hK K
    try simp only [Act.put, List.getElem_toArray, List.getElem_cons_zero, List.getElem_cons_succ, List.setIfInBounds_toArray, List.set_cons_zero, List.set_cons_succ]
    refine AnyG.one 3 (by kernel_rfl) rfl ?_
    intro K hK
    go_simp
    refine (CN.out).mono ?_
    rintro e w3 ⟨rfl, hb⟩
    have hSb : (fun w' => Cel w' gb [.int .i64 (s : Nat), .int .i64 (i : Nat), .int .i64 (l : Nat), .int .i64 (k : Nat), .int .i64 (m : Nat)] 23 ∧ Below w.heap.size w w') w3 := ⟨hSa.1.kept hb, hSa.2.trans (hb.mono hSa.2.size)⟩
    clear hb hSa CN
    refine hK.out _ _ (fun _ => hSb) ?_
    clear hK K
    try simp only [Act.put, List.getElem_toArray, List.getElem_cons_zero, List.getElem_cons_succ, List.setIfInBounds_toArray, List.set_cons_zero, List.set_cons_succ]
    refine AnyG.take 4 (v := ?vv6) rfl (by kernel_rfl) (by kernel_rfl) (by kernel_rfl) (by kernel_rfl) (fun _ _ _ h => h) hSb ?hy6 (by rfl) ?rest6
    case hy6 =>
      intro w0 h0
      go_simp
      try with_reducible rfl
    simp only [Act.put, List.getElem_toArray, List.getElem_cons_zero, List.getElem_cons_succ, List.setIfInBounds_toArray, List.set_cons_zero, List.set_cons_succ]
    refine AnyG.done (by kernel_rfl) ?_ _
    have c0 := hSb.1.cell 0 rfl
    go_wp2
    clear c0
    obtain ⟨hS3, hSb⟩ : True ∧ Hid ((fun w' => Cel w' gb [.int .i64 (s : Nat), .int .i64 (i : Nat), .int .i64 (l : Nat), .int .i64 (k : Nat), .int .i64 (m : Nat)] 23 ∧ Below w.heap.size w w') w3) := ⟨trivial, hSb⟩
    refine region_g [] (fun w' => Cel w' gb [.int .i64 (s : Nat), .int .i64 (i : Nat), .int .i64 (l : Nat), .int .i64 (k : Nat), .int .i64 (m : Nat)] 23 ∧ Below w.heap.size w w') (by kernel_rfl) ?_
    have hS : (fun w' => Cel w' gb [.int .i64 (s : Nat), .int .i64 (i : Nat), .int .i64 (l : Nat), .int .i64 (k : Nat), .int .i64 (m : Nat)] 23 ∧ Below w.heap.size w w') w3.drew := ⟨hSb.1.drew, hSb.2.drew⟩
    generalize w3.drew = V at *
    refine AnyG.take 0 (v := ?vv27) rfl (by kernel_rfl) (by kernel_rfl) (by kernel_rfl) (by kernel_rfl) (fun _ _ _ h => h) hS ?hy27 (by rfl) ?rest27
    case hy27 =>
      intro w0 h0
      go_simp
      try with_reducible rfl
    simp only [Act.put, List.getElem_toArray, List.getElem_cons_zero, List.getElem_cons_succ, List.setIfInBounds_toArray, List.set_cons_zero, List.set_cons_succ]
    refine AnyG.take 1 (v := ?vv28) rfl (by kernel_rfl) (by kernel_rfl) (by kernel_rfl) (by kernel_rfl) (fun _ _ _ h => h) hS ?hy28 (by rfl) ?rest28
    case hy28 =>
      intro w0 h0
      go_simp
      try with_reducible rfl
    simp only [Act.put, List.getElem_toArray, List.getElem_cons_zero, List.getElem_cons_succ, List.setIfInBounds_toArray, List.set_cons_zero, List.set_cons_succ]
    refine AnyG.take 2 (v := ?vv29) rfl (by kernel_rfl) (by kernel_rfl) (by kernel_rfl) (by kernel_rfl) (fun _ _ _ h => h) hS ?hy29 (by rfl) ?rest29
    case hy29 =>
      intro w0 h0
      go_simp
      try with_reducible rfl
    simp only [Act.put, List.getElem_toArray, List.getElem_cons_zero, List.getElem_cons_succ, List.setIfInBounds_toArray, List.set_cons_zero, List.set_cons_succ]
    refine AnyG.take 3 (v := ?vv30) rfl (by kernel_rfl) (by kernel_rfl) (by kernel_rfl) (by kernel_rfl) (fun _ _ _ h => h) hS ?hy30 (by rfl) ?rest30
    case hy30 =>
      intro w0 h0
      have c0 := h0.1.cell 3 rfl
      go_simp
      try with_reducible rfl
    simp only [Act.put, List.getElem_toArray, List.getElem_cons_zero, List.getElem_cons_succ, List.setIfInBounds_toArray, List.set_cons_zero, List.set_cons_succ]
    refine AnyG.take 8 (v := ?vv31) rfl (by kernel_rfl) (by kernel_rfl) (by kernel_rfl) (by kernel_rfl) (fun _ _ _ h => h) hS ?hy31 (by rfl) ?rest31
    case hy31 =>
      intro w0 h0
      go_simp
      try with_reducible rfl
    simp only [Act.put, List.getElem_toArray, List.getElem_cons_zero, List.getElem_cons_succ, List.setIfInBounds_toArray, List.set_cons_zero, List.set_cons_succ]
    refine AnyG.take 9 (v := ?vv32) rfl (by kernel_rfl) (by kernel_rfl) (by kernel_rfl) (by kernel_rfl) (fun _ _ _ h => h) hS ?hy32 (by rfl) ?rest32
    case hy32 =>
      intro w0 h0
      have c0 := h0.1.cell 4 rfl
      go_simp
      try with_reducible rfl
    simp only [Act.put, List.getElem_toArray, List.getElem_cons_zero, List.getElem_cons_succ, List.setIfInBounds_toArray, List.set_cons_zero, List.set_cons_succ]
    refine AnyG.one 4 (by kernel_rfl) rfl ?_
    intro K hK
    go_simp
    refine (KK.out _).mono ?_
    rintro e w2 ⟨g, rfl, hI, hg, hb⟩
    have hSa : (fun w' => Cel w' gb [.int .i64 (s : Nat), .int .i64 (i : Nat), .int .i64 (l : Nat), .int .i64 (k : Nat), .int .i64 (m : Nat)] 23 ∧ Below w.heap.size w w') w2 := ⟨hS.1.kept hb, hS.2.trans (hb.mono hS.2.size)⟩
    have CN := hide (KNK.out w2 g hI)
    clear hb hI hg hS
    refine hK.out _ _ (fun _ => hSa) ?_
    clear hK K
    try simp only [Act.put, List.getElem_toArray, List.getElem_cons_zero, List.getElem_cons_succ, List.setIfInBounds_toArray, List.set_cons_zero, List.set_cons_succ]
    refine AnyG.one 5 (by kernel_rfl) rfl ?_
    intro K hK
    go_simp
    refine (CN.out).mono ?_
    rintro e w3 ⟨rfl, hb⟩
    have hSb : (fun w' => Cel w' gb [.int .i64 (s : Nat), .int .i64 (i : Nat), .int .i64 (l : Nat), .int .i64 (k : Nat), .int .i64 (m : Nat)] 23 ∧ Below w.heap.size w w') w3 := ⟨hSa.1.kept hb, hSa.2.trans (hb.mono hSa.2.size)⟩
    clear hb hSa CN
    refine hK.out _ _ (fun _ => hSb) ?_
    clear hK K
    try simp only [Act.put, List.getElem_toArray, List.getElem_cons_zero, List.getElem_cons_succ, List.setIfInBounds_toArray, List.set_cons_zero, List.set_cons_succ]
    refine AnyG.take 6 (v := ?vv33) rfl (by kernel_rfl) (by kernel_rfl) (by kernel_rfl) (by kernel_rfl) (fun _ _ _ h => h) hSb ?hy33 (by rfl) ?rest33
    case hy33 =>
      intro w0 h0
      go_simp
      try with_reducible rfl
    simp only [Act.put, List.getElem_toArray, List.getElem_cons_zero, List.getElem_cons_succ, List.setIfInBounds_toArray, List.set_cons_zero, List.set_cons_succ]
    refine AnyG.take 7 (v := ?vv34) rfl (by kernel_rfl) (by kernel_rfl) (by kernel_rfl) (by kernel_rfl) (fun _ _ _ h => h) hSb ?hy34 (by rfl) ?rest34
    case hy34 =>
      intro w0 h0
      go_simp
      try with_reducible rfl
    simp only [Act.put, List.getElem_toArray, List.getElem_cons_zero, List.getElem_cons_succ, List.setIfInBounds_toArray, List.set_cons_zero, List.set_cons_succ]
    refine AnyG.one 10 (by kernel_rfl) rfl ?_
    intro K hK
    go_simp
    refine (KD.out _).mono ?_
    rintro e w4 ⟨rfl, rfl⟩
    refine hK.out _ _ (fun _ => hSb) ?_
    clear hK K
    try simp only [Act.put, List.getElem_toArray, List.getElem_cons_zero, List.getElem_cons_succ, List.setIfInBounds_toArray, List.set_cons_zero, List.set_cons_succ]
    refine AnyG.take 11 (v := ?vv35) rfl (by kernel_rfl) (by kernel_rfl) (by kernel_rfl) (by kernel_rfl) (fun _ _ _ h => h) hSb ?hy35 (by rfl) ?rest35
    case hy35 =>
      intro w0 h0
      go_simp
      try with_reducible rfl
    simp only [Act.put, List.getElem_toArray, List.getElem_cons_zero, List.getElem_cons_succ, List.setIfInBounds_toArray, List.set_cons_zero, List.set_cons_succ]
    refine AnyG.take 12 (v := ?vv36) rfl (by kernel_rfl) (by kernel_rfl) (by kernel_rfl) (by kernel_rfl) (fun _ _ _ h => h) hSb ?hy36 (by rfl) ?rest36
    case hy36 =>
      intro w0 h0
      go_simp
      try with_reducible rfl
    simp only [Act.put, List.getElem_toArray, List.getElem_cons_zero, List.getElem_cons_succ, List.setIfInBounds_toArray, List.set_cons_zero, List.set_cons_succ]
    refine AnyG.done (by kernel_rfl) ?_ _
    go_wp2
    go_ret
    rw [RN.out]
    exact ⟨rfl, hSb.2⟩
set_option maxHeartbeats 2000000 in
theorem kname_c (z1 z2 z3 z4 z5 : Int) (w : World) :
    Calls Tryd.prog 10 #[.agg #[.int .i64 z1, .int .i64 z2, .int .i64 z3, .int .i64 z4, .int .i64 z5]] w fun e w' => e = .returned (.string (Co.str (Co.nmZ (z1, z2, z3, z4, z5)))) ∧ Below w.heap.size w w' := by
  cases h : Co.okZ (z1, z2, z3, z4, z5) with
  | true =>
    have e := Co.okZ_nn h
    have h2 := Co.okZ_nat (Co.nat (z1, z2, z3, z4, z5))
    rw [e, h] at h2
    have := kname_n z1.toNat z2.toNat z3.toNat z4.toNat z5.toNat h2.symm w
    unfold Co.toZ Co.nat at e
    simp only [Prod.mk.injEq] at e
    obtain ⟨a1, a2, a3, a4, a5⟩ := e
    rw [a1, a2, a3, a4, a5] at this
    unfold Co.nmZ
    rw [h]
    exact this
  | false =>
    have RC := hide (fun w0 => kcheck_c z1 z2 z3 z4 z5 w0)
    rw [h] at RC
    have R : Hid (Co.nmZ (z1, z2, z3, z4, z5) = []) := by unfold Co.nmZ; rw [h]; exact (rfl : ([] : List Nat) = [])
    obtain ⟨W, hW⟩ : ∃ W, W = w.alloc (.cells #[.int .i64 z1, .int .i64 z2, .int .i64 z3, .int .i64 z4, .int .i64 z5] 23) := ⟨_, rfl⟩
    have HB0 : Hid (Below w.heap.size w W) := by rw [hW]; exact below_alloc w _
    have HC : Hid (Cel W w.heap.size [.int .i64 z1, .int .i64 z2, .int .i64 z3, .int .i64 z4, .int .i64 z5] 23) := by rw [hW]; exact Cel.new w _ _
    have HW := hide hW
    clear hW h
    go_enter Tryd.func10, Tryd.ntmps10
    go_wp2_with fail
    rw [← HW.out]
    refine (RC.out _).mono ?_
    rintro e w1 ⟨rfl, hb⟩
    have HB1 := hide (HB0.out.trans (hb.mono HB0.out.size))
    clear hb
    go_wp2
    go_ret
    rw [R.out]
    exact ⟨rfl, HB1.out⟩
end Go.Proofs.YtadfnllfeoidhaaDoor
