/-
  For all lengths and two symbols: no code is the beginning of another one, and codes rise by length, then symbol (P11.2, P11.4). No condition.
-/
import Derived.Test.YtcjhiolginpgoaaM18
import Derived.Deep.DeepCutAuto
namespace Go.Proofs.Ytcjhiolginpgoaa.huffApart
open Go.ChangeShapes Go.WideShapes Go.ChangeAt Go.RowKit Num Bit Ji Hp Ka Hr
set_option linter.unusedVariables false
set_option linter.unusedSimpArgs false
set_option maxRecDepth 100000

theorem apart_at (l : List Int) (h : lok l = true) (A B : Nat) (hA : A < 256) (hB : B < 256) (hne : A ≠ B) (h1 : 0 < cntOf l A) (h2 : 0 < cntOf l B) (h3 : cntOf l A ≤ cntOf l B) :
    cod (cntOf l) B / 2 ^ (cntOf l B - cntOf l A) ≠ cod (cntOf l) A ∧ ((cntOf l A < cntOf l B ∨ A < B) ↔ cod (cntOf l) A < cod (cntOf l) B / 2 ^ (cntOf l B - cntOf l A)) ∧ cod (cntOf l) A < 2 ^ cntOf l A := by
  obtain ⟨k1, k2⟩ : win l 40 = true ∧ fitb (cntOf l) = true := by unfold lok at h; simpa using h
  obtain ⟨_, lb⟩ := win_len k1
  have le := cnt_le40 lb
  rw [cod_pos h1, cod_pos h2]
  obtain ⟨x1, x2⟩ := apart (cntOf l) 256 (a := A) (b := B) h1 h2 (le B) hA hB hne h3
  exact ⟨x1, x2, code_lt (cntOf l) 256 h1 (le A) hA (fit_need k2)⟩
def QA (w : World) (vA cA vB cB : Nat) (v9 v10 : Value) (wx : World) : Prop := ∃ gx gy, v9 = .pointer (some ⟨gx, 0, none⟩) ∧ v10 = .pointer (some ⟨gy, 0, none⟩) ∧ Cel wx gx [.int .i64 (vA : Nat), .int .u64 (cA : Nat)] 33 ∧ Cel wx gy [.int .i64 (vB : Nat), .int .u64 (cB : Nat)] 33 ∧ Below w.heap.size w wx

set_option maxHeartbeats 8000000 in
theorem walk (w : World) (al : Option Addr) (l : List Int) (cl : Nat) (Xl : Nd w al l) (Fl : FitI l) (a : Int) (ha : 0 ≤ a ∧ a < 256) (b : Int) (hb : 0 ≤ b ∧ b < 256) :
    Calls Try.prog 4 #[.slice al l.length cl, .int .u8 a, .int .u8 b] w fun e w' => e = .returned (.bool true) ∧ Below w.heap.size w w' := by
  obtain ⟨A, rfl⟩ := Int.eq_ofNat_of_zero_le ha.1
  obtain ⟨B, rfl⟩ := Int.eq_ofNat_of_zero_le hb.1
  have A256 : A < 256 := by omega
  have B256 : B < 256 := by omega
  by_cases s1 : (1000 : Int) < (l.length : Int)
  case pos =>
    go_enter Try.func4, Try.ntmps4
    go_wp2_with fail
    refine (jheads_c _).mono ?_
    rintro e w9 ⟨rfl, hb9⟩
    go_wp2
    go_ret
    exact ⟨rfl, hb9⟩
  have c1 : l.length ≤ 1048576 := by omega
  cases hw : lok l with
  | false =>
    have C1 := hide (jcodes_bad al l cl w Xl c1 hw)
    clear hw
    go_enter Try.func4, Try.ntmps4
    go_wp2_with fail
    refine (C1.out).mono ?_
    rintro e w1 ⟨rfl, hb1⟩
    have HB := hide hb1
    clear hb1
    go_wp2_with fail
    refine (jheads_c _).mono ?_
    rintro e w9 ⟨rfl, hb9⟩
    have hb4 := HB.out.trans (hb9.mono HB.out.size)
    go_wp2
    go_ret
    exact ⟨rfl, hb4⟩
  | true =>
    have C1 := hide (jcodes_c al l cl w Xl c1 hw)
    have HAP := hide (apart_at l hw A B A256 B256)
    have HLE : Hid (∀ c, cntOf l c ≤ 40) := by
      obtain ⟨k1, _⟩ : win l 40 = true ∧ fitb (cntOf l) = true := by unfold lok at hw; simpa using hw
      exact cnt_le40 (win_len k1).2
    have Az2 : (A : Int) < 256 := by omega
    have Bz2 : (B : Int) < 256 := by omega
    clear hw
    go_enter Try.func4, Try.ntmps4
    go_wp2_with fail
    refine (C1.out).mono ?_
    rintro e w2 ⟨gc, rfl, cc2, hgc, hb2⟩
    have e0 := cc2.cell (A * 2) (cds_fst (cntOf l) A A256)
    have e1 := cc2.cell (A * 2 + 1) (cds_snd (cntOf l) A A256)
    have e2 := cc2.cell (B * 2) (cds_fst (cntOf l) B B256)
    have e3 := cc2.cell (B * 2 + 1) (cds_snd (cntOf l) B B256)
    have hgc2 : gc < w2.heap.size := cc2.lt
    have HB2 := hide hb2
    have a40 := HLE.out A
    have b40 := HLE.out B
    clear hb2 cc2 hgc C1 HLE
    generalize cod (cntOf l) A = cA at *
    generalize cod (cntOf l) B = cB at *
    generalize cntOf l A = vA at *
    generalize cntOf l B = vB at *
    go_upto_region 6 with fail
    go_cut [9, 10] (fun v9 v10 wx => QA w vA cA vB cB v9 v10 wx)
    case first =>
      clear HAP
      refine region_g [] (fun w' => Below w2.heap.size w2 w') (by kernel_rfl) ?_
      have hS : Below w2.heap.size w2 w2.drew := (Below.refl _ _).drew
      have zY : Hid (w2.drew.heap.size = w2.heap.size) := rfl
      generalize w2.drew = Y at *
      refine AnyG.take 0 (v := ?vv1) rfl (by kernel_rfl) (by kernel_rfl) (by kernel_rfl) (by kernel_rfl) (fun _ _ _ h => h) hS ?hy1 (by rfl) ?rest1
      case hy1 =>
        intro w0 h0
        go_simp
        try with_reducible rfl
      simp only [Act.put, List.getElem_toArray, List.getElem_cons_zero, List.getElem_cons_succ, List.setIfInBounds_toArray, List.set_cons_zero, List.set_cons_succ]
      refine AnyG.take 1 (v := ?vv2) rfl (by kernel_rfl) (by kernel_rfl) (by kernel_rfl) (by kernel_rfl) (fun _ _ _ h => h) hS ?hy2 (by rfl) ?rest2
      case hy2 =>
        intro w0 h0
        go_simp
        try with_reducible rfl
      simp only [Act.put, List.getElem_toArray, List.getElem_cons_zero, List.getElem_cons_succ, List.setIfInBounds_toArray, List.set_cons_zero, List.set_cons_succ]
      refine AnyG.take 2 (v := ?vv3) rfl (by kernel_rfl) (by kernel_rfl) (by kernel_rfl) (by kernel_rfl) (fun _ _ _ h => h) hS ?hy3 (by rfl) ?rest3
      case hy3 =>
        intro w0 h0
        go_simp
        try with_reducible rfl
      simp only [Act.put, List.getElem_toArray, List.getElem_cons_zero, List.getElem_cons_succ, List.setIfInBounds_toArray, List.set_cons_zero, List.set_cons_succ]
      refine AnyG.take 3 (v := ?vv4) rfl (by kernel_rfl) (by kernel_rfl) (by kernel_rfl) (by kernel_rfl) (fun _ _ _ h => h) hS ?hy4 (by rfl) ?rest4
      case hy4 =>
        intro w0 h0
        have k0 := (h0.cell (p := ⟨gc, A * 2, none⟩) hgc2).trans e0
        have k1 := (h0.cell (p := ⟨gc, A * 2 + 1, none⟩) hgc2).trans e1
        have k2 := (h0.cell (p := ⟨gc, B * 2, none⟩) hgc2).trans e2
        have k3 := (h0.cell (p := ⟨gc, B * 2 + 1, none⟩) hgc2).trans e3
        go_simp
        try with_reducible rfl
      simp only [Act.put, List.getElem_toArray, List.getElem_cons_zero, List.getElem_cons_succ, List.setIfInBounds_toArray, List.set_cons_zero, List.set_cons_succ]
      refine AnyG.take 4 (v := ?vv5) rfl (by kernel_rfl) (by kernel_rfl) (by kernel_rfl) (by kernel_rfl) (fun _ _ _ h => h) hS ?hy5 (by rfl) ?rest5
      case hy5 =>
        intro w0 h0
        go_simp
        try with_reducible rfl
      simp only [Act.put, List.getElem_toArray, List.getElem_cons_zero, List.getElem_cons_succ, List.setIfInBounds_toArray, List.set_cons_zero, List.set_cons_succ]
      refine AnyG.take 5 (v := ?vv6) rfl (by kernel_rfl) (by kernel_rfl) (by kernel_rfl) (by kernel_rfl) (fun _ _ _ h => h) hS ?hy6 (by rfl) ?rest6
      case hy6 =>
        intro w0 h0
        go_simp
        try with_reducible rfl
      simp only [Act.put, List.getElem_toArray, List.getElem_cons_zero, List.getElem_cons_succ, List.setIfInBounds_toArray, List.set_cons_zero, List.set_cons_succ]
      refine AnyG.take 6 (v := ?vv7) rfl (by kernel_rfl) (by kernel_rfl) (by kernel_rfl) (by kernel_rfl) (fun _ _ _ h => h) hS ?hy7 (by rfl) ?rest7
      case hy7 =>
        intro w0 h0
        go_simp
        try with_reducible rfl
      simp only [Act.put, List.getElem_toArray, List.getElem_cons_zero, List.getElem_cons_succ, List.setIfInBounds_toArray, List.set_cons_zero, List.set_cons_succ]
      refine AnyG.take 7 (v := ?vv8) rfl (by kernel_rfl) (by kernel_rfl) (by kernel_rfl) (by kernel_rfl) (fun _ _ _ h => h) hS ?hy8 (by rfl) ?rest8
      case hy8 =>
        intro w0 h0
        have k0 := (h0.cell (p := ⟨gc, A * 2, none⟩) hgc2).trans e0
        have k1 := (h0.cell (p := ⟨gc, A * 2 + 1, none⟩) hgc2).trans e1
        have k2 := (h0.cell (p := ⟨gc, B * 2, none⟩) hgc2).trans e2
        have k3 := (h0.cell (p := ⟨gc, B * 2 + 1, none⟩) hgc2).trans e3
        go_simp
        try with_reducible rfl
      simp only [Act.put, List.getElem_toArray, List.getElem_cons_zero, List.getElem_cons_succ, List.setIfInBounds_toArray, List.set_cons_zero, List.set_cons_succ]
      refine AnyG.two 8 9 (by kernel_rfl) rfl rfl ?_ ?_
      · intro K hK
        go_simp
        refine hK.out _ _ (fun _ => hS.alloc hS.size _) ?_
        clear hK K
        try simp only [Act.put, List.getElem_toArray, List.getElem_cons_zero, List.getElem_cons_succ, List.setIfInBounds_toArray, List.set_cons_zero, List.set_cons_succ]
        have C8 : Cel (Y.alloc (.cells #[.int .i64 0, .int .u64 0] 33)) Y.heap.size [.int .i64 0, .int .u64 0] 33 := Cel.new _ _ _
        replace hS := hS.alloc hS.size (.cells #[.int .i64 0, .int .u64 0] 33)
        have zY1 : Hid ((Y.alloc (.cells #[.int .i64 0, .int .u64 0] 33)).heap.size = Y.heap.size + 1) := by show _ = _; simp
        generalize Y.alloc (.cells #[.int .i64 0, .int .u64 0] 33) = Y1 at *
        refine AnyG.one 9 (by kernel_rfl) rfl ?_
        intro K hK
        go_simp
        refine hK.out _ _ (fun _ => hS.alloc hS.size _) ?_
        clear hK K
        try simp only [Act.put, List.getElem_toArray, List.getElem_cons_zero, List.getElem_cons_succ, List.setIfInBounds_toArray, List.set_cons_zero, List.set_cons_succ]
        replace C8 := C8.alloc (.cells #[.int .i64 0, .int .u64 0] 33)
        have C9 : Cel (Y1.alloc (.cells #[.int .i64 0, .int .u64 0] 33)) Y1.heap.size [.int .i64 0, .int .u64 0] 33 := Cel.new _ _ _
        replace hS := hS.alloc hS.size (.cells #[.int .i64 0, .int .u64 0] 33)
        have zY2 : Hid ((Y1.alloc (.cells #[.int .i64 0, .int .u64 0] 33)).heap.size = Y1.heap.size + 1) := by show _ = _; simp
        generalize Y1.alloc (.cells #[.int .i64 0, .int .u64 0] 33) = Y2 at *
        refine AnyG.one 10 (by kernel_rfl) rfl ?_
        intro K hK
        have n0 := C8.cell 0 rfl
        have n1 := C8.cell 1 rfl
        have f0 := C8.frozen 0
        have f1 := C8.frozen 1
        go_simp
        have hS2 : Below w2.heap.size w2 ((Y2.setCell ⟨Y.heap.size, 0, none⟩ (.int .i64 (vA : Nat))).setCell ⟨Y.heap.size, 1, none⟩ (.int .u64 (cA : Nat))) := (hS.setCell (by show w2.heap.size ≤ Y.heap.size; have e8 := zY.out; have e9 := zY1.out; omega) _).setCell (by show w2.heap.size ≤ Y.heap.size; have e8 := zY.out; have e9 := zY1.out; omega) _
        refine hK.out _ _ (fun _ => hS2) ?_
        clear hK K n0 n1 f0 f1
        try simp only [Act.put, List.getElem_toArray, List.getElem_cons_zero, List.getElem_cons_succ, List.setIfInBounds_toArray, List.set_cons_zero, List.set_cons_succ]
        replace C9 := (C9.other (a := ⟨Y.heap.size, 0, none⟩) (by show Y1.heap.size ≠ Y.heap.size; have e8 := zY.out; have e9 := zY1.out; omega) (.int .i64 (vA : Nat))).other (a := ⟨Y.heap.size, 1, none⟩) (by show Y1.heap.size ≠ Y.heap.size; have e8 := zY.out; have e9 := zY1.out; omega) (.int .u64 (cA : Nat))
        replace C8 : Cel ((Y2.setCell ⟨Y.heap.size, 0, none⟩ (.int .i64 (vA : Nat))).setCell ⟨Y.heap.size, 1, none⟩ (.int .u64 (cA : Nat))) Y.heap.size [(.int .i64 (vA : Nat)), (.int .u64 (cA : Nat))] 33 := (C8.set 0 (.int .i64 (vA : Nat))).set 1 (.int .u64 (cA : Nat))
        clear hS
        have hS := hS2
        clear hS2
        generalize ((Y2.setCell ⟨Y.heap.size, 0, none⟩ (.int .i64 (vA : Nat))).setCell ⟨Y.heap.size, 1, none⟩ (.int .u64 (cA : Nat))) = Y3 at *
        refine AnyG.one 11 (by kernel_rfl) rfl ?_
        intro K hK
        have n0 := C9.cell 0 rfl
        have n1 := C9.cell 1 rfl
        have f0 := C9.frozen 0
        have f1 := C9.frozen 1
        go_simp
        have hS2 : Below w2.heap.size w2 ((Y3.setCell ⟨Y1.heap.size, 0, none⟩ (.int .i64 (vB : Nat))).setCell ⟨Y1.heap.size, 1, none⟩ (.int .u64 (cB : Nat))) := (hS.setCell (by show w2.heap.size ≤ Y1.heap.size; have e8 := zY.out; have e9 := zY1.out; omega) _).setCell (by show w2.heap.size ≤ Y1.heap.size; have e8 := zY.out; have e9 := zY1.out; omega) _
        refine hK.out _ _ (fun _ => hS2) ?_
        clear hK K n0 n1 f0 f1
        try simp only [Act.put, List.getElem_toArray, List.getElem_cons_zero, List.getElem_cons_succ, List.setIfInBounds_toArray, List.set_cons_zero, List.set_cons_succ]
        replace C8 := (C8.other (a := ⟨Y1.heap.size, 0, none⟩) (by show Y.heap.size ≠ Y1.heap.size; have e8 := zY.out; have e9 := zY1.out; omega) (.int .i64 (vB : Nat))).other (a := ⟨Y1.heap.size, 1, none⟩) (by show Y.heap.size ≠ Y1.heap.size; have e8 := zY.out; have e9 := zY1.out; omega) (.int .u64 (cB : Nat))
        replace C9 : Cel ((Y3.setCell ⟨Y1.heap.size, 0, none⟩ (.int .i64 (vB : Nat))).setCell ⟨Y1.heap.size, 1, none⟩ (.int .u64 (cB : Nat))) Y1.heap.size [(.int .i64 (vB : Nat)), (.int .u64 (cB : Nat))] 33 := (C9.set 0 (.int .i64 (vB : Nat))).set 1 (.int .u64 (cB : Nat))
        clear hS
        have hS := hS2
        clear hS2
        generalize ((Y3.setCell ⟨Y1.heap.size, 0, none⟩ (.int .i64 (vB : Nat))).setCell ⟨Y1.heap.size, 1, none⟩ (.int .u64 (cB : Nat))) = Y4 at *
        refine AnyG.done (by kernel_rfl) ?_ _
        have HQ : Hid (QA w vA cA vB cB (.pointer (some ⟨Y.heap.size, 0, none⟩)) (.pointer (some ⟨Y1.heap.size, 0, none⟩)) Y4) := ⟨_, _, rfl, rfl, C8, C9, HB2.out.trans (hS.mono HB2.out.size)⟩
        clear C8 C9 hS
        go_wp2_with fail
        go_meet
        exact HQ.out
      · intro K hK
        go_simp
        refine hK.out _ _ (fun _ => hS.alloc hS.size _) ?_
        clear hK K
        try simp only [Act.put, List.getElem_toArray, List.getElem_cons_zero, List.getElem_cons_succ, List.setIfInBounds_toArray, List.set_cons_zero, List.set_cons_succ]
        have C9 : Cel (Y.alloc (.cells #[.int .i64 0, .int .u64 0] 33)) Y.heap.size [.int .i64 0, .int .u64 0] 33 := Cel.new _ _ _
        replace hS := hS.alloc hS.size (.cells #[.int .i64 0, .int .u64 0] 33)
        have zY1 : Hid ((Y.alloc (.cells #[.int .i64 0, .int .u64 0] 33)).heap.size = Y.heap.size + 1) := by show _ = _; simp
        generalize Y.alloc (.cells #[.int .i64 0, .int .u64 0] 33) = Y1 at *
        refine AnyG.one 8 (by kernel_rfl) rfl ?_
        intro K hK
        go_simp
        refine hK.out _ _ (fun _ => hS.alloc hS.size _) ?_
        clear hK K
        try simp only [Act.put, List.getElem_toArray, List.getElem_cons_zero, List.getElem_cons_succ, List.setIfInBounds_toArray, List.set_cons_zero, List.set_cons_succ]
        replace C9 := C9.alloc (.cells #[.int .i64 0, .int .u64 0] 33)
        have C8 : Cel (Y1.alloc (.cells #[.int .i64 0, .int .u64 0] 33)) Y1.heap.size [.int .i64 0, .int .u64 0] 33 := Cel.new _ _ _
        replace hS := hS.alloc hS.size (.cells #[.int .i64 0, .int .u64 0] 33)
        have zY2 : Hid ((Y1.alloc (.cells #[.int .i64 0, .int .u64 0] 33)).heap.size = Y1.heap.size + 1) := by show _ = _; simp
        generalize Y1.alloc (.cells #[.int .i64 0, .int .u64 0] 33) = Y2 at *
        refine AnyG.one 10 (by kernel_rfl) rfl ?_
        intro K hK
        have n0 := C8.cell 0 rfl
        have n1 := C8.cell 1 rfl
        have f0 := C8.frozen 0
        have f1 := C8.frozen 1
        go_simp
        have hS2 : Below w2.heap.size w2 ((Y2.setCell ⟨Y1.heap.size, 0, none⟩ (.int .i64 (vA : Nat))).setCell ⟨Y1.heap.size, 1, none⟩ (.int .u64 (cA : Nat))) := (hS.setCell (by show w2.heap.size ≤ Y1.heap.size; have e8 := zY.out; have e9 := zY1.out; omega) _).setCell (by show w2.heap.size ≤ Y1.heap.size; have e8 := zY.out; have e9 := zY1.out; omega) _
        refine hK.out _ _ (fun _ => hS2) ?_
        clear hK K n0 n1 f0 f1
        try simp only [Act.put, List.getElem_toArray, List.getElem_cons_zero, List.getElem_cons_succ, List.setIfInBounds_toArray, List.set_cons_zero, List.set_cons_succ]
        replace C9 := (C9.other (a := ⟨Y1.heap.size, 0, none⟩) (by show Y.heap.size ≠ Y1.heap.size; have e8 := zY.out; have e9 := zY1.out; omega) (.int .i64 (vA : Nat))).other (a := ⟨Y1.heap.size, 1, none⟩) (by show Y.heap.size ≠ Y1.heap.size; have e8 := zY.out; have e9 := zY1.out; omega) (.int .u64 (cA : Nat))
        replace C8 : Cel ((Y2.setCell ⟨Y1.heap.size, 0, none⟩ (.int .i64 (vA : Nat))).setCell ⟨Y1.heap.size, 1, none⟩ (.int .u64 (cA : Nat))) Y1.heap.size [(.int .i64 (vA : Nat)), (.int .u64 (cA : Nat))] 33 := (C8.set 0 (.int .i64 (vA : Nat))).set 1 (.int .u64 (cA : Nat))
        clear hS
        have hS := hS2
        clear hS2
        generalize ((Y2.setCell ⟨Y1.heap.size, 0, none⟩ (.int .i64 (vA : Nat))).setCell ⟨Y1.heap.size, 1, none⟩ (.int .u64 (cA : Nat))) = Y3 at *
        refine AnyG.one 11 (by kernel_rfl) rfl ?_
        intro K hK
        have n0 := C9.cell 0 rfl
        have n1 := C9.cell 1 rfl
        have f0 := C9.frozen 0
        have f1 := C9.frozen 1
        go_simp
        have hS2 : Below w2.heap.size w2 ((Y3.setCell ⟨Y.heap.size, 0, none⟩ (.int .i64 (vB : Nat))).setCell ⟨Y.heap.size, 1, none⟩ (.int .u64 (cB : Nat))) := (hS.setCell (by show w2.heap.size ≤ Y.heap.size; have e8 := zY.out; have e9 := zY1.out; omega) _).setCell (by show w2.heap.size ≤ Y.heap.size; have e8 := zY.out; have e9 := zY1.out; omega) _
        refine hK.out _ _ (fun _ => hS2) ?_
        clear hK K n0 n1 f0 f1
        try simp only [Act.put, List.getElem_toArray, List.getElem_cons_zero, List.getElem_cons_succ, List.setIfInBounds_toArray, List.set_cons_zero, List.set_cons_succ]
        replace C8 := (C8.other (a := ⟨Y.heap.size, 0, none⟩) (by show Y1.heap.size ≠ Y.heap.size; have e8 := zY.out; have e9 := zY1.out; omega) (.int .i64 (vB : Nat))).other (a := ⟨Y.heap.size, 1, none⟩) (by show Y1.heap.size ≠ Y.heap.size; have e8 := zY.out; have e9 := zY1.out; omega) (.int .u64 (cB : Nat))
        replace C9 : Cel ((Y3.setCell ⟨Y.heap.size, 0, none⟩ (.int .i64 (vB : Nat))).setCell ⟨Y.heap.size, 1, none⟩ (.int .u64 (cB : Nat))) Y.heap.size [(.int .i64 (vB : Nat)), (.int .u64 (cB : Nat))] 33 := (C9.set 0 (.int .i64 (vB : Nat))).set 1 (.int .u64 (cB : Nat))
        clear hS
        have hS := hS2
        clear hS2
        generalize ((Y3.setCell ⟨Y.heap.size, 0, none⟩ (.int .i64 (vB : Nat))).setCell ⟨Y.heap.size, 1, none⟩ (.int .u64 (cB : Nat))) = Y4 at *
        refine AnyG.done (by kernel_rfl) ?_ _
        have HQ : Hid (QA w vA cA vB cB (.pointer (some ⟨Y1.heap.size, 0, none⟩)) (.pointer (some ⟨Y.heap.size, 0, none⟩)) Y4) := ⟨_, _, rfl, rfl, C8, C9, HB2.out.trans (hS.mono HB2.out.size)⟩
        clear C8 C9 hS
        go_wp2_with fail
        go_meet
        exact HQ.out
    case rest =>
      obtain ⟨gx, gy, rfl, rfl, hx, hy, hbb⟩ := hcut
      have x0 := hx.cell 0 rfl
      have x1 := hx.cell 1 rfl
      have y0 := hy.cell 0 rfl
      have y1 := hy.cell 1 rfl
      have HB := hide hbb
      clear hx hy hbb e0 e1 e2 e3 HB2
      by_cases d1 : A = B
      · have d1z : ((A : Int) == (B : Int)) = true := by simp [d1]
        clear HAP
        go_wp2_with fail
        refine (jheads_c _).mono ?_
        rintro e w9 ⟨rfl, hb9⟩
        have hb4 := HB.out.trans (hb9.mono HB.out.size)
        go_wp2
        go_ret
        exact ⟨rfl, hb4⟩
      have d1z : ((A : Int) == (B : Int)) = false := by simp; omega
      by_cases d2 : vA = 0
      · have d2z : ((vA : Int) == 0) = true := by simp [d2]
        clear HAP
        go_wp2_with fail
        refine (jheads_c _).mono ?_
        rintro e w9 ⟨rfl, hb9⟩
        have hb4 := HB.out.trans (hb9.mono HB.out.size)
        go_wp2
        go_ret
        exact ⟨rfl, hb4⟩
      have d2z : ((vA : Int) == 0) = false := by simp; omega
      by_cases d3 : vB = 0
      · have d3z : ((vB : Int) == 0) = true := by simp [d3]
        clear HAP
        go_wp2_with fail
        refine (jheads_c _).mono ?_
        rintro e w9 ⟨rfl, hb9⟩
        have hb4 := HB.out.trans (hb9.mono HB.out.size)
        go_wp2
        go_ret
        exact ⟨rfl, hb4⟩
      have d3z : ((vB : Int) == 0) = false := by simp; omega
      by_cases d4 : vB < vA
      · have d4z : (vB : Int) < (vA : Int) := by omega
        clear HAP
        go_wp2_with fail
        refine (jheads_c _).mono ?_
        rintro e w9 ⟨rfl, hb9⟩
        have hb4 := HB.out.trans (hb9.mono HB.out.size)
        go_wp2
        go_ret
        exact ⟨rfl, hb4⟩
      have d4z : ¬ (vB : Int) < (vA : Int) := by omega
      obtain ⟨g1, g2, g3⟩ := HAP.out d1 (by omega) (by omega) (by omega)
      obtain ⟨s, hs⟩ : ∃ s : Nat, s = vB - vA := ⟨_, rfl⟩
      rw [← hs] at g1 g2
      have sz : (vB : Int) - (vA : Int) = (s : Int) := by omega
      have s64 : (s : Int) < 64 := by omega
      obtain ⟨Fv, hF⟩ : ∃ Fv : Nat, Fv = cB / 2 ^ s := ⟨_, rfl⟩
      rw [← hF] at g1 g2
      have eF : (cB : Int) / 2 ^ s = (Fv : Int) := by rw [hF, Int.natCast_ediv, Int.natCast_pow]; rfl
      have eG : (cA : Int) / 2 ^ vA = 0 := by
        have : ((cA / 2 ^ vA : Nat) : Int) = 0 := by rw [Nat.div_eq_of_lt g3]; rfl
        rw [Int.natCast_ediv, Int.natCast_pow] at this
        exact this
      have v64 : (vA : Int) < 64 := by omega
      have q1 : ((Fv : Int) != (cA : Int)) = true := by simp; omega
      clear HAP g3 hF hs g1
      by_cases d5 : vA < vB
      · have d5z : (vA : Int) < (vB : Int) := by omega
        have q2 : (cA : Int) < (Fv : Int) := by have := g2.1 (.inl d5); omega
        clear g2
        go_wp2_with fail
        refine (jheads_c _).mono ?_
        rintro e w9 ⟨rfl, hb9⟩
        have hb4 := HB.out.trans (hb9.mono HB.out.size)
        go_wp2
        go_ret
        exact ⟨rfl, hb4⟩
      · have d5z : ¬ (vA : Int) < (vB : Int) := by omega
        by_cases d6 : A < B
        · have d6z : (A : Int) < (B : Int) := by omega
          have q2 : (cA : Int) < (Fv : Int) := by have := g2.1 (.inr d6); omega
          clear g2
          go_wp2_with fail
          refine (jheads_c _).mono ?_
          rintro e w9 ⟨rfl, hb9⟩
          have hb4 := HB.out.trans (hb9.mono HB.out.size)
          go_wp2
          go_ret
          exact ⟨rfl, hb4⟩
        · have d6z : ¬ (A : Int) < (B : Int) := by omega
          have q2 : ¬ (cA : Int) < (Fv : Int) := fun h => by
            have := g2.2 (by omega)
            omega
          clear g2
          go_wp2_with fail
          refine (jheads_c _).mono ?_
          rintro e w9 ⟨rfl, hb9⟩
          have hb4 := HB.out.trans (hb9.mono HB.out.size)
          go_wp2
          go_ret
          exact ⟨rfl, hb4⟩

theorem lifted (os : Os) (started : os.Started) (H : Type) (enc : TypeId × Value → H) :
    ReturnsInHanded {} Try.checked os 4 .any (Rows.huffApartSpec.pre6 enc Try.prog Try.f4 Rows.huffApartRow.domain false) (Rows.huffApartSpec.post enc Try.prog Try.f4 false true false false) := by
  refine returnsInHanded_of_change (C := Try.checked) own started (by kernel_rfl) Try.func4
    (ChangeSpec.witness6 (enc := enc) (C := Try.checked) false ⟨#[], #[.slice none 0 0, .int .u8 0, .int .u8 0], []⟩ 8 (by kernel_rfl) (by kernel_rfl) (by kernel_rfl) (by kernel_rfl)) ?_
  intro W base args ds gs before hval0 hW hcnd _
  have hval : ∀ (j : Nat) t v, Try.f4.params[j]? = some t → args[j]? = some v → Value.okWide Try.prog W .any base t v := hval0
  have hW' := hW
  obtain ⟨p, q, hA0, hV, rfl, hfz, hnd⟩ := hW
  have hA : DataW.TrodAll enc Try.prog W 0 (fun _ => true) true Try.f4.params.toList args.toList ds p := hA0
  rw [Try.params4] at hA hval
  obtain ⟨v0, vs0, d0, ds0, p0, q0, hargs, rfl, rfl, h0, r0⟩ := trodAll_cons hA
  obtain ⟨v1, vs1, d1, ds1, p1, q1, rfl, rfl, rfl, h1, r1⟩ := trodAll_cons r0
  obtain ⟨v2, vs2, d2, ds2, p2, q2, rfl, rfl, rfl, h2, r2⟩ := trodAll_cons r1
  obtain ⟨rfl, rfl, rfl⟩ := trodAll_nil r2
  obtain rfl : args = #[v0, v1, v2] := by cases args; simp_all
  obtain ⟨rfl, rfl⟩ := trodVars_none hV
  have k0 := h0
  have lt0 : ∀ x ∈ p0, x.block < W.heap.size := by obtain ⟨m, hm⟩ := k0; exact DataW.trod_lt m _ _ _ hm
  obtain ⟨al, l, cl, rfl, bl1, bl2, bl3⟩ := open_isl (hval 0 22 v0 rfl rfl) h0
  obtain ⟨a, rfl, rfl, rfl, w1⟩ := open_int Try.underlying5 (hval 1 5 v1 rfl rfl) h1
  obtain ⟨b, rfl, rfl, rfl, w2⟩ := open_int Try.underlying5 (hval 2 5 v2 rfl rfl) h2
  clear hA0 hval0
  refine (walk W al l cl bl1 bl2 a (u8_wfh _ w1) b (u8_wfh _ w2)).mono fun e W' ⟨he, bel⟩ => ?_
  subst he
  exact ⟨_, rfl, _, _, _, [], _, [], hW', trodAll_mk1 (shut_bool Try.underlying4 _), (trodAll_cons_mk (Below.trod laidOut (by kernel_rfl) (of_decide_eq_true (by kernel_rfl)) k0 bel lt0) (trodAll_cons_mk (shut_int Try.underlying5 w1) (trodAll_cons_mk (shut_int Try.underlying5 w2) trodAll_mk0))), rfl, bel.frame _, fun h => by cases h⟩

theorem over : Rows.huffApartRow.holds Try.pinned (OpenSpec.ofChange Rows.huffApartSpec) :=
  OpenClaim.holds_of_wide 4 Try.f4 rfl rfl rfl rfl rfl rfl rfl ⟨rfl, rfl, rfl, rfl, rfl⟩ rfl rfl rfl rfl rfl (by kernel_rfl) Try.func4 (by kernel_rfl)
    (of_decide_eq_true (by kernel_rfl)) (by unfold Func.isWrapper; first | (rw [if_pos (by decide +kernel)]; kernel_rfl) | (rw [if_neg (by decide +kernel)]; exact ⟨rfl, rfl⟩))
    (fun os started H enc _ => lifted os started H enc)

theorem proved : Rows.HuffApartSaid := over
end Go.Proofs.Ytcjhiolginpgoaa.huffApart
namespace Go.Proofs.Ytcjhiolginpgoaa
theorem huffApart_holds : Rows.HuffApartSaid := huffApart.proved
#print axioms huffApart_holds
end Go.Proofs.Ytcjhiolginpgoaa
