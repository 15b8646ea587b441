/-
  The contracts of slices.Clone at numbers, and of the program's ahead and counted.
-/
import Derived.Test.YtojjinjgmijgcaaBx1
import Derived.Test.YtojjinjgmijgcaaBw6
import Derived.Test.YtojjinjgmijgcaaRp
import Derived.Laws.Cover3
namespace Go.Proofs.Ytojjinjgmijgcaa
open Go.RowKit
set_option linter.unusedVariables false
set_option linter.unusedSimpArgs false
set_option maxRecDepth 100000

theorem nd_any {w : World} {g : Nat} {l : List Nat} {T : TypeId} (h : Cel w g (iv l) T) : Nd w (some ⟨g, 0, none⟩) (toI l) := by
  intro h0
  rw [length_toI] at h0
  refine ⟨g, 0, rfl, h.lt, fun i hi => ?_⟩
  rw [length_toI] at hi
  rw [Nat.zero_add, gi_toI]
  exact h.cell i (iv_get l i hi)
theorem eq_niln (a : Option Addr) (l c : Nat) (w : World) : (binOp .eql 23 (.slice a l c) (.slice none 0 0)).run Try.prog w = .ok (.bool a.isNone) w := by
  simp only [binOp]
  simp [run_equal_slice_nil w 23 3 a l c Try.underlying23]
set_option maxHeartbeats 2000000 in
theorem bclone_c (g : Nat) (l : List Nat) (cap : Nat) (T : TypeId) (w : World) (hx : Cel w g (iv l) T) (h0 : 0 < l.length) (hl : l.length ≤ 1048576) :
    Calls Try.prog 19 #[.slice (some ⟨g, 0, none⟩) l.length cap] w fun e w' => ∃ gc bc, e = .returned (.slice (some ⟨gc, 0, none⟩) l.length bc) ∧ OR w' w.heap.size gc bc l ∧ l.length ≤ bc ∧ Below w.heap.size w w' := by
  obtain ⟨i0, hi, hz0, hz1, hz2⟩ := info_parts Try.info3
  have hq := eq_niln (some ⟨g, 0, none⟩) l.length cap
  have hq2 : (some (⟨g, 0, none⟩ : Addr)).isNone = false := rfl
  go_enter Try.func19, Try.ntmps19
  go_wp2_with (at_builtin; refine Ap.wpList_append_u (by rfl) _ _ _ (by rfl) w.heap.size 3 i0 (.int .i64 0) 8 Try.underlying23 hi hz0 hz1 hz2 rfl (.slice (some ⟨w.heap.size, 0, none⟩) 0 0) 0 [] (by rfl) ?c0 (some ⟨g, 0, none⟩) l.length cap (iv l) (by rfl) (length_iv l) ?c1 ?c2 ?c3 ?c4 ?c5 ?_)
  case c0 => exact ⟨rfl, .inr ⟨w.heap.size, 0, #[], rfl, Nat.le_refl _, Cel.new w [] 3, Nat.le_refl _, by simp⟩⟩
  case c1 =>
    intro _
    refine ⟨_, rfl, fun j u hj => ?_⟩
    have hx2 := hx.alloc (.cells #[] 3)
    rw [show (Addr.add ⟨g, 0, none⟩ j) = ⟨g, j, none⟩ by unfold Addr.add; split <;> (try subst_vars) <;> simp]
    exact hx2.cell j hj
  case c2 => intro u hu; obtain ⟨y, _, rfl⟩ := List.mem_map.1 hu; rfl
  case c3 => unfold maxLen; omega
  case c4 => omega
  case c5 => simp
  intro bo bc w1 hown hle hb
  have hB : Below w.heap.size w w1 := (below_alloc w _).trans hb
  obtain ⟨gc, rfl⟩ := own_nil_app hown h0
  have HF : Hid (OR w1 w.heap.size gc bc l ∧ l.length ≤ bc ∧ Below w.heap.size w w1) := ⟨⟨hown⟩, hle, hB⟩
  clear hown hb hB hx hq hi hz0 hz1 hz2
  go_wp2
  go_ret
  exact ⟨gc, bc, rfl, HF.out⟩
set_option maxHeartbeats 2000000 in
theorem bahead_c (ao : Option Addr) (L : List Nat) (ac R : Nat) (cv : Value) (i : Nat) (w : World) (hx : Bd w ao L) (hb : Bytes L) (hl : L.length ≤ 8192) (hR : R ≤ L.length) (hi : i ≤ L.length) (hne : i ≠ R) (hcv : ∃ bo m bc, cv = .slice bo m bc) :
    Calls Try.prog 24 #[.agg #[.slice ao L.length ac, .int .i64 (R : Int), cv], .int .i64 (i : Int)] w fun e w' => e = .returned (.int .u8 (Su.sg L (Su.ix R i) : Nat)) ∧ Below w.heap.size w w' := by
  obtain ⟨bo, m, bc, rfl⟩ := hcv
  have hk := Su.ix_lt hR hi hne
  have HB := hide (below_alloc w (.cells #[.slice ao L.length ac, .int .i64 (R : Int), .slice bo m bc] 25))
  obtain ⟨b, off, rfl, hb0, hcc⟩ := hx (by omega)
  have e1 := (HB.out.cell (p := ⟨b, off + Su.ix R i, none⟩) hb0).trans (hcc _ hk)
  have hs : Su.sg L (Su.ix R i) = gt L (Su.ix R i) := rfl
  rw [hs]
  have gk := gt_lt hb (Su.ix R i)
  clear hcc hx
  generalize gt L (Su.ix R i) = y at *
  generalize L.length = n at *
  by_cases hlt : i < R
  · have ek : Su.ix R i = i := by unfold Su.ix; rw [if_pos (by omega)]
    rw [ek] at e1 hk
    have hz : ¬ (R : Int) < (i : Int) := by omega
    have hz2 : (i : Int) < (n : Int) := by omega
    clear ek hs
    go_enter Try.func24, Try.ntmps24
    go_wp2
    go_ret
    exact ⟨rfl, HB.out⟩
  · have ek : Su.ix R i = i - 1 := by unfold Su.ix; rw [if_neg (by omega)]
    rw [ek] at e1 hk
    obtain ⟨k, rfl⟩ : ∃ k, i = k + 1 := ⟨i - 1, by omega⟩
    rw [Nat.add_sub_cancel] at e1 hk
    have hz : (R : Int) < (k : Int) + 1 := by omega
    have hz2 : (k : Int) < (n : Int) := by omega
    clear ek hs
    go_enter Try.func24, Try.ntmps24
    go_wp2
    go_ret
    exact ⟨rfl, HB.out⟩
set_option maxHeartbeats 4000000 in
theorem bcounted_c (ao : Option Addr) (L : List Nat) (ac : Nat) (r : Int) (bo : Option Addr) (C : List Int) (bc : Nat) (w : World) (h : BA w ao L ac bo C bc) :
    Calls Try.prog 22 #[.agg #[.slice ao L.length ac, .int .i64 r, .slice bo C.length bc]] w fun e w' => e = .returned (.bool (decide (L.length ≤ 8192 ∧ 0 ≤ r ∧ r ≤ (L.length : Int) ∧ C = toI (Su.fs L)))) ∧ Below w.heap.size w w' := by
  obtain ⟨W, hW⟩ : ∃ W, W = w.alloc (.cells #[.slice ao L.length ac, .int .i64 r, .slice bo C.length bc] 25) := ⟨_, rfl⟩
  have bW : Below w.heap.size w W := by rw [hW]; exact below_alloc w _
  by_cases hok : L.length ≤ 8192 ∧ 0 ≤ r ∧ r ≤ (L.length : Int)
  · obtain ⟨h1, h2, h3⟩ := hok
    have B1 : Cel W w.heap.size [.slice ao L.length ac, .int .i64 r, .slice bo C.length bc] 25 := by rw [hW]; exact Cel.new w _ _
    have E : Hid (decide (L.length ≤ 8192 ∧ 0 ≤ r ∧ r ≤ (L.length : Int) ∧ C = toI (Su.fs L)) = decide (C = toI (Su.fs L))) := by
      show decide _ = decide _
      congr 1
      simp [h1, h2, h3]
    rw [E.out]
    have C1 : Hid (∀ w0, w0 = W → Calls Try.prog 18 #[.slice ao L.length ac] w0 fun e w' => e = .returned (.agg (iv (Su.fs L)).toArray) ∧ Below w0.heap.size w0 w') := fun w0 e => by subst e; exact bcts_c ao L ac w0 (h.x.keep bW) h.b (by omega)
    have C2 : Hid (∀ w0 g, Below w.heap.size w w0 → Cel w0 g (iv (Su.fs L)) 46 → Calls Try.prog 33 #[.slice bo C.length bc, .slice (some ⟨g, 0, none⟩) 257 257] w0 fun e w' => e = .returned (.bool (decide (C = toI (Su.fs L)))) ∧ Below w0.heap.size w0 w') := fun w0 g h1 h2 => by
      have := seq_c bo C bc (some ⟨g, 0, none⟩) (toI (Su.fs L)) 257 w0 (h.n.keep h1) (nd_any h2) (by rw [length_toI, Su.length_fs]; omega)
      rw [length_toI, Su.length_fs] at this
      exact this
    have LF := hide (Su.length_fs L)
    generalize decide (C = toI (Su.fs L)) = bb at *
    generalize Su.fs L = F at *
    clear h E
    have z1 : ¬ (8192 : Int) < (L.length : Int) := by omega
    have z2 : ¬ r < 0 := by omega
    have z3 : ¬ (L.length : Int) < r := by omega
    generalize L.length = n at *
    go_enter Try.func22, Try.ntmps22
    go_wp2_with fail
    rw [← hW]
    refine (C1.out _ rfl).mono ?_
    rintro e w1 ⟨rfl, hb1⟩
    have HB := hide (bW.trans (hb1.mono bW.size))
    have B2 := hide (B1.kept hb1)
    clear hb1 C1 hW bW B1
    go_wp2_with (first | refine alloc_z _ info_cn ?_ | fail)
    intro w2 hc2 hb2 hs2
    have B3 := hide (B2.out.kept hb2)
    have HB2 := hide (HB.out.trans (hb2.mono HB.out.size))
    have HC2 := hide hc2
    have hgw : w.heap.size < w1.heap.size := B2.out.lt
    clear hb2 hc2 hs2 B2 HB
    generalize w1.heap.size = g at *
    go_wp2_with (first | refine store_cn g _ _ rfl rfl HC2.out (by simp) LF.out ?_ | fail)
    intro w3 hc3 hO
    have B4 := hide (hO.cel B3.out (by omega))
    have HB4 := hide (HB2.out.trans (hO.below (Nat.le_of_lt hgw)))
    have HC4 := hide hc3
    have c2 := B4.out.cell 2 rfl
    clear hc3 hO HC2 HB2 B3
    go_wp2
    refine region_g [] (fun w' => Cel w' w.heap.size [.slice ao n ac, .int .i64 r, .slice bo C.length bc] 25 ∧ Cel w' g (iv F) 46 ∧ Below w.heap.size w w') (by kernel_rfl) ?_
    have hS : (fun w' => Cel w' w.heap.size [.slice ao n ac, .int .i64 r, .slice bo C.length bc] 25 ∧ Cel w' g (iv F) 46 ∧ Below w.heap.size w w') w3.drew := ⟨B4.out.drew, HC4.out.drew, HB4.out.drew⟩
    clear B4 HC4 HB4 c2
    generalize w3.drew = V at *
    refine AnyG.take 0 (v := ?vv1) rfl (by kernel_rfl) (by kernel_rfl) (by kernel_rfl) (by kernel_rfl) (fun _ _ _ h => h) hS ?hy1 (by rfl) ?rest1
    case hy1 =>
      intro w0 h0
      go_simp
      try with_reducible rfl
    simp only [Act.put, List.getElem_toArray, List.getElem_cons_zero, List.getElem_cons_succ, List.setIfInBounds_toArray, List.set_cons_zero, List.set_cons_succ]
    refine AnyG.take 1 (v := ?vv2) rfl (by kernel_rfl) (by kernel_rfl) (by kernel_rfl) (by kernel_rfl) (fun _ _ _ h => h) hS ?hy2 (by rfl) ?rest2
    case hy2 =>
      intro w0 h0
      have c2 := h0.1.cell 2 rfl
      go_simp
      try with_reducible rfl
    simp only [Act.put, List.getElem_toArray, List.getElem_cons_zero, List.getElem_cons_succ, List.setIfInBounds_toArray, List.set_cons_zero, List.set_cons_succ]
    refine AnyG.take 2 (v := ?vv3) rfl (by kernel_rfl) (by kernel_rfl) (by kernel_rfl) (by kernel_rfl) (fun _ _ _ h => h) hS ?hy3 (by rfl) ?rest3
    case hy3 =>
      intro w0 h0
      go_simp
      try with_reducible rfl
    simp only [Act.put, List.getElem_toArray, List.getElem_cons_zero, List.getElem_cons_succ, List.setIfInBounds_toArray, List.set_cons_zero, List.set_cons_succ]
    refine AnyG.one 3 (by kernel_rfl) rfl ?_
    intro K hK
    go_simp
    refine (C2.out _ g hS.2.2 hS.2.1).mono ?_
    rintro e v1 ⟨rfl, hb⟩
    have hS1 : (fun w' => Cel w' w.heap.size [.slice ao n ac, .int .i64 r, .slice bo C.length bc] 25 ∧ Cel w' g (iv F) 46 ∧ Below w.heap.size w w') v1 := ⟨hS.1.kept hb, hS.2.1.kept hb, hS.2.2.trans (hb.mono hS.2.2.size)⟩
    clear hb hS
    refine hK.out _ _ (fun _ => hS1) ?_
    clear hK K
    try simp only [Act.put, List.getElem_toArray, List.getElem_cons_zero, List.getElem_cons_succ, List.setIfInBounds_toArray, List.set_cons_zero, List.set_cons_succ]
    refine AnyG.take 4 (v := ?vv4) rfl (by kernel_rfl) (by kernel_rfl) (by kernel_rfl) (by kernel_rfl) (fun _ _ _ h => h) hS1 ?hy4 (by rfl) ?rest4
    case hy4 =>
      intro w0 h0
      go_simp
      try with_reducible rfl
    simp only [Act.put, List.getElem_toArray, List.getElem_cons_zero, List.getElem_cons_succ, List.setIfInBounds_toArray, List.set_cons_zero, List.set_cons_succ]
    refine AnyG.done (by kernel_rfl) ?_ _
    have HB := hide hS1.2.2
    clear hS1
    go_wp2
    go_ret
    exact ⟨rfl, HB.out⟩
  · have E : Hid (decide (L.length ≤ 8192 ∧ 0 ≤ r ∧ r ≤ (L.length : Int) ∧ C = toI (Su.fs L)) = false) := by
      show decide _ = false
      refine decide_eq_false fun x => hok ⟨x.1, x.2.1, x.2.2.1⟩
    rw [E.out]
    have HB := hide bW
    clear h
    generalize L.length = n at *
    by_cases h1 : (8192 : Int) < (n : Int)
    · go_enter Try.func22, Try.ntmps22
      go_wp2
      go_ret
      exact ⟨rfl, by rw [← hW]; exact HB.out⟩
    · by_cases h2 : r < 0
      · go_enter Try.func22, Try.ntmps22
        go_wp2
        go_ret
        exact ⟨rfl, by rw [← hW]; exact HB.out⟩
      · have h3 : (n : Int) < r := by omega
        go_enter Try.func22, Try.ntmps22
        go_wp2
        go_ret
        exact ⟨rfl, by rw [← hW]; exact HB.out⟩
end Go.Proofs.Ytojjinjgmijgcaa
