/-
  The contract of the program's firsts: an array of 41 numbers by value. The contract of the program's Codes.
-/
import Derived.Test.YtcaalcjcpddhaaaGreatS17
set_option linter.unusedVariables false
set_option linter.unusedSimpArgs false
set_option maxRecDepth 100000
namespace Go.Proofs.YtcaalcjcpddhaaaGreat.Zz
open Go.RowKit Num Ji Hp Ka Hr
def wvh (ys : List Nat) : List Value := ys.map fun y : Nat => Value.int .u64 (y : Int)
theorem length_wvh (ys : List Nat) : (wvh ys).length = ys.length := by simp [wvh]
theorem wvh_get (l : List Nat) (i : Nat) (h : i < l.length) : (wvh l)[i]? = some (.int .u64 (l.getD i 0 : Nat)) := by
 unfold wvh
 rw [List.getElem?_map, List.getElem?_eq_getElem h, List.getD_eq_getElem?_getD, List.getElem?_eq_getElem h]
 rfl
theorem wvh_set (l : List Nat) (i v : Nat) : (wvh l).set i (.int .u64 (v : Nat)) = wvh (l.set i v) := by simp [wvh, List.map_set]
def a41 (f : Nat → Nat) : List Nat := (List.range 41).map f
theorem length_a41 (f : Nat → Nat) : (a41 f).length = 41 := by simp [a41]
theorem a41_at (f : Nat → Nat) (i : Nat) (h : i < 41) : (a41 f).getD i 0 = f i := by
 unfold a41
 rw [List.getD_eq_getElem?_getD, List.getElem?_map, List.getElem?_range h]
 rfl
theorem a41_set (f g : Nat → Nat) (i : Nat) (h : i < 41) (hg : ∀ j, j < 41 → j ≠ i → g j = f j) : (a41 f).set i (g i) = a41 g := by
 refine List.ext_getElem? fun j => ?_
 unfold a41
 rw [List.getElem?_set, List.length_map, List.length_range]
 by_cases c : j < 41
 ·rw [List.getElem?_map, List.getElem?_map, List.getElem?_range c]
  by_cases e : i = j
  ·subst e; rw [if_pos rfl, if_pos h]; rfl
  ·rw [if_neg e]
   simp only [Option.map_some]
   rw [hg j c (fun x => e x.symm)]
 ·rw [if_neg (by omega), List.getElem?_eq_none (by simp; omega), List.getElem?_eq_none (by simp; omega)]
theorem a41_cong {f g : Nat → Nat} (h : ∀ j, j < 41 → f j = g j) : a41 f = a41 g := List.map_congr_left fun j hj => h j (List.mem_range.1 hj)
theorem info_41 : (Tryz.prog.info? 134).map (fun i => (i.zero, i.size)) = some (some (.agg (wvh (a41 fun _ => 0)).toArray), 41) := by kernel_rfl
theorem size_41 (f : Nat → Nat) : (Tryz.prog.info? 134).map (·.size) = some (wvh (a41 f)).toArray.size := by
 rw [(zero_of_info info_41).2, List.size_toArray, length_wvh, length_a41]
theorem one_wvh (l : List Nat) : (wvh l).toArray.all (·.oneCell') = true := by
 rw [List.all_toArray, List.all_eq_true]
 intro v hv
 obtain ⟨a, _, rfl⟩ := List.mem_map.1 hv
 rfl
def A41 (w : World) (g : Nat) (f : Nat → Nat) : Prop := Cel w g (wvh (a41 f)) 134
theorem A41.cell {w : World} {g : Nat} {f : Nat → Nat} (h : A41 w g f) (i : Nat) (hi : i < 41) : w.cell? ⟨g, i, none⟩ = some (.int .u64 (f i : Nat)) := by
 have := Cel.cell h i (wvh_get (a41 f) i (by rw [length_a41]; exact hi))
 rw [a41_at f i hi] at this
 exact this
theorem A41.set {w : World} {g : Nat} {f : Nat → Nat} (h : A41 w g f) (k : Nat → Nat) (i : Nat) (hi : i < 41) (hk : ∀ j, j < 41 → j ≠ i → k j = f j) : A41 (w.setCell ⟨g, i, none⟩ (.int .u64 (k i : Nat))) g k := by
 have := Cel.set h i (.int .u64 (k i : Nat))
 rw [wvh_set, a41_set f k i hi hk] at this
 exact this
theorem alloc_41 {ops : Array Oper} {rest : List Oper} {d : Option Tmp} {ty : TypeId} {ps : String} {af : Array Edge} {a : Act} {w : World} {Q : Exit → Act → World → Prop}
  (h : ∀ w1, A41 w1 w.heap.size (fun _ => 0) → Below w.heap.size w w1 → w.heap.size < w1.heap.size → wpList Tryz.prog ops Q rest (a.put d (.pointer (some ⟨w.heap.size, 0, none⟩))) w1) :
  wpList Tryz.prog ops Q (⟨d, .alloc 134, ty, ps, af, none⟩ :: rest) a w := by
 refine wpList_plain rfl fun K hK => ?_
 unfold Oper.wp execOp
 have z := (zero_of_info info_41).1
 have nw := h _ (Cel.new w _ _) (below_alloc w _) (by simp)
 refine cast ?_ (hK _ _ nw)
 simp [Instr.alloc, Sem.run_bind, z, newVar, Value.cells, go_sem]
theorem store_41 {ops : Array Oper} {rest : List Oper} {d : Option Tmp} {ty : TypeId} {ps : String} {af : Array Edge} {a : Act} {w : World} {Q : Exit → Act → World → Prop} {x y : Operand}
  (g : Nat) (f k : Nat → Nat) (hx : a.eval x = .pointer (some ⟨g, 0, none⟩)) (hy : a.eval y = .agg (wvh (a41 k)).toArray) (hc : A41 w g f)
  (h : ∀ w1, A41 w1 g k → Only g w w1 → wpList Tryz.prog ops Q rest (a.put d undef) w1) :
  wpList Tryz.prog ops Q (⟨d, .store 134 x y, ty, ps, af, none⟩ :: rest) a w :=
 wpList_store_row rfl _ x y rfl g _ hx hy _ _ hc (size_41 k) (by simp [length_wvh, length_a41]) (one_wvh _) (h _ (setRow_heap w g _ _ _ _ hc) (Only.row g w _))
theorem load_41 {ops : Array Oper} {rest : List Oper} {d : Option Tmp} {ty : TypeId} {ps : String} {af : Array Edge} {a : Act} {w : World} {Q : Exit → Act → World → Prop} {x : Operand}
  (g : Nat) (f : Nat → Nat) (hx : a.eval x = .pointer (some ⟨g, 0, none⟩)) (hc : A41 w g f)
  (h : wpList Tryz.prog ops Q rest (a.put d (.agg (wvh (a41 f)).toArray)) w) :
  wpList Tryz.prog ops Q (⟨d, .load 134 x, ty, ps, af, none⟩ :: rest) a w :=
 wpList_load_row rfl _ x rfl g hx _ _ _ _ hc Tryz.underlying134 rfl (size_41 f) h
def fsP (v : Nat → Nat) (L j : Nat) : Nat := if j ≤ L then Ka.fst v j else 0
set_option maxHeartbeats 8000000 in
theorem jfirsts_c (ao : Option Addr) (l : List Int) (cap : Nat) (w : World) (hx : Nd w ao l) (hl : l.length = 256) (hb : ∀ i, i < l.length → 0 ≤ gi l i ∧ gi l i ≤ 40) (hs : need (cntOf l) (fun _ => true) 256 ≤ 2 ^ 40) :
  Calls Tryz.prog 79 #[.slice ao l.length cap] w fun e w' => e = .returned (.agg (wvh (a41 (Ka.fst (cntOf l)))).toArray) ∧ Below w.heap.size w w' := by
 obtain ⟨b, off, rfl, hbw, hcc⟩ := hx (by omega)
 obtain ⟨v, hv⟩ : ∃ v, Hid (v = cntOf l) := ⟨_, rfl⟩
 have HC : Hid (∀ i, i < l.length → gi l i = (v i : Int) ∧ v i ≤ 40) := fun i hi => by
  have := hb i hi
  rw [hv.out]
  unfold cntOf
  omega
 have HCC : Hid (∀ i, i < l.length → w.cell? ⟨b, off + i, none⟩ = some (.int .i64 (v i : Nat))) := fun i hi => by
  rw [← (HC.out i hi).1]; exact hcc i hi
 have HL := hide hl
 have l256 : l.length ≤ 256 := by omega
 rw [← hv.out] at hs ⊢
 have HFL : Hid (∀ L, L ≤ 40 → Ka.fst v L + cl v L 256 ≤ 1099511627776) := fun L hL => by
  have := fst_le v hs L hL
  have e : (2 : Nat) ^ 40 = 1099511627776 := by decide
  omega
 clear hcc hb hl hx hs
 go_enter Tryz.func79, Tryz.ntmps79
 go_wp2_with (refine alloc_41 ?_)
 intro w1 hc1 hb1 hs1
 go_wp2_with (refine alloc_41 ?_)
 intro w2 hc2 hb2 hs2
 go_wp2_with (refine alloc_41 ?_)
 intro w3 hc3 hb3 hs3
 have hb1s := hb1.size
 have hb2s := hb2.size
 have HB3 := hide ((hb1.trans (hb2.mono hb1.size)).trans (hb3.mono (by omega)))
 have HR3 := hide ((hc1.kept hb2).kept hb3)
 have HC3 := hide (hc2.kept hb3)
 have HF3 := hide hc3
 have d1 : w.heap.size < w1.heap.size := hs1
 have d2 : w1.heap.size < w2.heap.size := hs2
 clear hc1 hb1 hs1 hc2 hb2 hs2 hc3 hb3 hs3 hb1s hb2s
 generalize w1.heap.size = gc at *
 generalize w2.heap.size = gf at *
 simp only [Act.put, yq3, List.set]
 go_wp2
 go_loopw [10] (fun vi wr => ∃ q : Nat, q ≤ l.length ∧ vi = .int .i64 q ∧ Hid (A41 wr gc (fun L => cl v L q)) ∧ Hid (A41 wr gf (fun _ => 0)) ∧ Hid (A41 wr w.heap.size (fun _ => 0)) ∧ Hid (Below w.heap.size w wr)) (fun vi _ => l.length - (intOf vi).toNat)
 case atStart => exact ⟨0, Nat.zero_le _, rfl, HC3, HF3, HR3, HB3⟩
 case round =>
  clear HC3 HF3 HR3 HB3
  obtain ⟨q, hq, rfl, HA, HF, HR, HB⟩ := hrel
  by_cases hlt : q < l.length
  ·have hltz : (q : Int) < (l.length : Int) := by omega
   obtain ⟨_, hv2⟩ := HC.out q hlt
   have c1 := (HB.out.cell (p := ⟨b, off + q, none⟩) hbw).trans (HCC.out q hlt)
   by_cases hp : 0 < v q
   ·have hpz : (0 : Int) < (v q : Int) := by omega
    have v41 : (v q : Int) < 41 := by omega
    have v5 : v q < 41 := by omega
    have n0 := HA.out.cell (v q) v5
    have f0 := Cel.frozen HA.out (v q)
    have hle := cl_le v (v q) q
    have HA1 : Hid (A41 (wr.setCell ⟨gc, v q, none⟩ (.int .u64 ((cl v (v q) q + 1 : Nat) : Int))) gc (fun L => cl v L (q + 1))) := by
     have e : cl v (v q) (q + 1) = cl v (v q) q + 1 := by show cl v (v q) q + _ = _; rw [if_pos ⟨hp, rfl⟩]
     have := HA.out.set (fun L => cl v L (q + 1)) (v q) v5 (fun j _ hj => by show cl v j q + _ = _; rw [if_neg (fun x => hj x.2.symm)]; rfl)
     rw [e] at this
     exact this
    have HF1 : Hid (∀ y, A41 (wr.setCell ⟨gc, v q, none⟩ y) gf (fun _ => 0)) := fun y => Cel.other HF.out (by show gf ≠ gc; omega) y
    have HR1 : Hid (∀ y, A41 (wr.setCell ⟨gc, v q, none⟩ y) w.heap.size (fun _ => 0)) := fun y => Cel.other HR.out (by show w.heap.size ≠ gc; omega) y
    have HB1 : Hid (∀ y, Below w.heap.size w (wr.setCell ⟨gc, v q, none⟩ y)) := fun y => HB.out.setCell (by show w.heap.size ≤ gc; omega) y
    clear HA HF HR HB
    generalize cl v (v q) q = C at *
    generalize v q = x at *
    go_wp2
    exact ⟨⟨q + 1, by omega, by go_num, HA1, HF1.out _, HR1.out _, HB1.out _⟩, by simp only [intOf]; omega⟩
   ·have hpz : ¬ (0 : Int) < (v q : Int) := by omega
    have HA1 : Hid (A41 wr gc (fun L => cl v L (q + 1))) := by
     have e : (fun L => cl v L (q + 1)) = (fun L => cl v L q) := by funext L; show cl v L q + _ = _; rw [if_neg (fun x => hp x.1)]; rfl
     rw [e]; exact HA.out
    clear HA
    generalize v q = x at *
    go_wp2
    exact ⟨⟨q + 1, by omega, by go_num, HA1, HF, HR, HB⟩, by simp only [intOf]; omega⟩
  ·obtain rfl : q = l.length := by omega
   have HA1 : Hid (A41 wr gc (fun L => cl v L 256)) := by have := HA.out; rw [HL.out] at this; exact this
   have HF1 : Hid (A41 wr gf (fsP v 0)) := by
    have e : fsP v 0 = fun _ => 0 := by
     funext j
     unfold fsP
     split
     ·rename_i h; obtain rfl : j = 0 := by omega
      rfl
     ·rfl
    rw [e]; exact HF.out
   clear HA HF HCC HC HL
   go_wp2
   go_loopw [22] (fun vi wr => ∃ L : Nat, L ≤ 40 ∧ vi = .int .i64 L ∧ Hid (A41 wr gc (fun L => cl v L 256)) ∧ Hid (A41 wr gf (fsP v L)) ∧ Hid (A41 wr w.heap.size (fun _ => 0)) ∧ Hid (Below w.heap.size w wr)) (fun vi _ => 40 - (intOf vi).toNat)
   case atStart => exact ⟨0, Nat.zero_le _, rfl, HA1, HF1, HR, HB⟩
   case round =>
    clear HA1 HF1 HR HB
    obtain ⟨L, hL, rfl, HA, HF, HR, HB⟩ := hrel
    by_cases hL2 : L < 40
    ·have hLz : (L : Int) < 40 := by omega
     have L41 : (L : Int) < 41 := by omega
     have L42 : (L : Int) + 1 < 41 := by omega
     have p0 : (0 : Int) ≤ (L : Int) + 1 := by omega
     have e0 : ((L : Int) + 1).toNat = L + 1 := by omega
     have wL : IntKind.i64.wrap ((L : Int) + 1) = (L : Int) + 1 := by rw [IntKind.wrap_i64]; omega
     have hfl := HFL.out L hL
     have HFN : Hid (fsP v L L = Ka.fst v L ∧ fsP v (L + 1) (L + 1) = 2 * (Ka.fst v L + cl v L 256) ∧ ∀ j, j < 41 → j ≠ L + 1 → fsP v (L + 1) j = fsP v L j) := by
      refine ⟨by unfold fsP; rw [if_pos (Nat.le_refl _)], by unfold fsP; rw [if_pos (Nat.le_refl _)]; rfl, fun j _ hj => ?_⟩
      unfold fsP
      by_cases c : j ≤ L
      ·rw [if_pos c, if_pos (by omega)]
      ·rw [if_neg c, if_neg (by omega)]
     obtain ⟨X, hX⟩ : ∃ X : Nat, Hid (X = Ka.fst v L) := ⟨_, rfl⟩
     obtain ⟨Z, hZ⟩ : ∃ Z : Nat, Hid (Z = cl v L 256) := ⟨_, rfl⟩
     rw [← hX.out, ← hZ.out] at hfl HFN
     go_wp2
     refine region_g [11] (fun w' => A41 w' gc (fun L => cl v L 256) ∧ A41 w' gf (fsP v L)) (by kernel_rfl) ?_
     have hS : A41 wr.drew gc (fun L => cl v L 256) ∧ A41 wr.drew gf (fsP v L) := ⟨HA.out.drew, HF.out.drew⟩
     replace HR : Hid (A41 wr.drew w.heap.size (fun _ => 0)) := HR.out.drew
     replace HB : Hid (Below w.heap.size w wr.drew) := HB.out.drew
     clear HA HF
     generalize wr.drew = Y at *
     refine AnyG.take 0 (v := ?vv1) rfl (by kernel_rfl) (by kernel_rfl) (by kernel_rfl) (by kernel_rfl) (fun _ _ _ h => h) hS ?hy1 (by rfl) ?rest1
     case hy1 =>
      intro w0 h0
      go_simp
      try with_reducible rfl
     simp only [Act.put, yq0, yq1, yq2, yq3, yq4, yq5]
     refine AnyG.take 1 (v := ?vv2) rfl (by kernel_rfl) (by kernel_rfl) (by kernel_rfl) (by kernel_rfl) (fun _ _ _ h => h) hS ?hy2 (by rfl) ?rest2
     case hy2 =>
      intro w0 h0
      go_simp
      try with_reducible rfl
     simp only [Act.put, yq0, yq1, yq2, yq3, yq4, yq5]
     refine AnyG.take 2 (v := ?vv3) rfl (by kernel_rfl) (by kernel_rfl) (by kernel_rfl) (by kernel_rfl) (fun _ _ _ h => h) hS ?hy3 (by rfl) ?rest3
     case hy3 =>
      intro w0 h0
      go_simp
      try with_reducible rfl
     simp only [Act.put, yq0, yq1, yq2, yq3, yq4, yq5]
     refine AnyG.take 3 (v := ?vv4) rfl (by kernel_rfl) (by kernel_rfl) (by kernel_rfl) (by kernel_rfl) (fun _ _ _ h => h) hS ?hy4 (by rfl) ?rest4
     case hy4 =>
      intro w0 h0
      go_simp
      try with_reducible rfl
     simp only [Act.put, yq0, yq1, yq2, yq3, yq4, yq5]
     refine AnyG.take 4 (v := ?vv5) rfl (by kernel_rfl) (by kernel_rfl) (by kernel_rfl) (by kernel_rfl) (fun _ _ _ h => h) hS ?hy5 (by rfl) ?rest5
     case hy5 =>
      intro w0 h0
      have k0 : w0.cell? ⟨gc, L, none⟩ = some (.int .u64 (Z : Nat)) := (by rw [hZ.out]; exact h0.1.cell L (by omega))
      have k1 : w0.cell? ⟨gf, L, none⟩ = some (.int .u64 (X : Nat)) := (by rw [← HFN.out.1]; exact h0.2.cell L (by omega))
      go_simp
      try with_reducible rfl
     simp only [Act.put, yq0, yq1, yq2, yq3, yq4, yq5]
     refine AnyG.take 5 (v := ?vv6) rfl (by kernel_rfl) (by kernel_rfl) (by kernel_rfl) (by kernel_rfl) (fun _ _ _ h => h) hS ?hy6 (by rfl) ?rest6
     case hy6 =>
      intro w0 h0
      go_simp
      try with_reducible rfl
     simp only [Act.put, yq0, yq1, yq2, yq3, yq4, yq5]
     refine AnyG.take 6 (v := ?vv7) rfl (by kernel_rfl) (by kernel_rfl) (by kernel_rfl) (by kernel_rfl) (fun _ _ _ h => h) hS ?hy7 (by rfl) ?rest7
     case hy7 =>
      intro w0 h0
      go_simp
      try with_reducible rfl
     simp only [Act.put, yq0, yq1, yq2, yq3, yq4, yq5]
     refine AnyG.take 7 (v := ?vv8) rfl (by kernel_rfl) (by kernel_rfl) (by kernel_rfl) (by kernel_rfl) (fun _ _ _ h => h) hS ?hy8 (by rfl) ?rest8
     case hy8 =>
      intro w0 h0
      have k0 : w0.cell? ⟨gc, L, none⟩ = some (.int .u64 (Z : Nat)) := (by rw [hZ.out]; exact h0.1.cell L (by omega))
      have k1 : w0.cell? ⟨gf, L, none⟩ = some (.int .u64 (X : Nat)) := (by rw [← HFN.out.1]; exact h0.2.cell L (by omega))
      go_simp
      try with_reducible rfl
     simp only [Act.put, yq0, yq1, yq2, yq3, yq4, yq5]
     have ws : IntKind.u64.wrap ((X : Int) + (Z : Int)) = ((X + Z : Nat) : Int) := by rw [IntKind.wrap_u64]; omega
     have ws2 : IntKind.u64.wrap (((X : Int) + (Z : Int)) * 2) = ((2 * (X + Z) : Nat) : Int) := by rw [IntKind.wrap_u64]; omega
     refine AnyG.take 8 (v := ?vv9) rfl (by kernel_rfl) (by kernel_rfl) (by kernel_rfl) (by kernel_rfl) (fun _ _ _ h => h) hS ?hy9 (by rfl) ?rest9
     case hy9 =>
      intro w0 h0
      go_simp
      try with_reducible rfl
     simp only [Act.put, yq0, yq1, yq2, yq3, yq4, yq5]
     refine AnyG.take 9 (v := ?vv10) rfl (by kernel_rfl) (by kernel_rfl) (by kernel_rfl) (by kernel_rfl) (fun _ _ _ h => h) hS ?hy10 (by rfl) ?rest10
     case hy10 =>
      intro w0 h0
      go_simp
      try with_reducible rfl
     simp only [Act.put, yq0, yq1, yq2, yq3, yq4, yq5]
     refine AnyG.takeW 10 (v := ?vv11) rfl (by kernel_rfl) (by kernel_rfl) (by kernel_rfl) (fun _ _ _ h => h) ?hy11 (by rfl) ?rest11
     case hy11 =>
      intro w0
      go_simp
      try with_reducible rfl
     simp only [Act.put, yq0, yq1, yq2, yq3, yq4, yq5]
     clear ws ws2
     refine AnyG.one 11 (by kernel_rfl) rfl ?_
     intro K hK
     have n0 := hS.2.cell (L + 1) (by omega)
     have f0 := Cel.frozen hS.2 (L + 1)
     go_simp
     refine hK.out _ _ (fun h => absurd (by decide) h) ?_
     clear hK K
     try simp only [Act.put, yq0, yq1, yq2, yq3, yq4, yq5]
     refine AnyG.done (by kernel_rfl) ?_ _
     clear n0 f0
     have e2 : (2 * ((X : Int) + (Z : Int))) = ((2 * (X + Z) : Nat) : Int) := by omega
     rw [e2]
     have HF1 : Hid (A41 (Y.setCell ⟨gf, L + 1, none⟩ (.int .u64 ((2 * (X + Z) : Nat) : Int))) gf (fsP v (L + 1))) := by
      have := hS.2.set (fsP v (L + 1)) (L + 1) (by omega) HFN.out.2.2
      rw [HFN.out.2.1] at this
      exact this
     have HA1 : Hid (A41 (Y.setCell ⟨gf, L + 1, none⟩ (.int .u64 ((2 * (X + Z) : Nat) : Int))) gc (fun L => cl v L 256)) := Cel.other hS.1 (by show gc ≠ gf; omega) _
     have HR1 : Hid (A41 (Y.setCell ⟨gf, L + 1, none⟩ (.int .u64 ((2 * (X + Z) : Nat) : Int))) w.heap.size (fun _ => 0)) := Cel.other HR.out (by show w.heap.size ≠ gf; omega) _
     have HB1 : Hid (Below w.heap.size w (Y.setCell ⟨gf, L + 1, none⟩ (.int .u64 ((2 * (X + Z) : Nat) : Int)))) := HB.out.setCell (by show w.heap.size ≤ gf; omega) _
     clear e2 hS HR HB HFN hX hZ hfl
     generalize Y.setCell ⟨gf, L + 1, none⟩ (.int .u64 ((2 * (X + Z) : Nat) : Int)) = Y2 at *
     go_wp2
     exact ⟨⟨L + 1, by omega, by go_num, HA1, HF1, HR1, HB1⟩, by simp only [intOf]; omega⟩
    ·obtain rfl : L = 40 := by omega
     have hF : A41 wr gf (Ka.fst v) := by
      have e : wvh (a41 (fsP v 40)) = wvh (a41 (Ka.fst v)) := by rw [a41_cong (g := Ka.fst v) fun j hj => by unfold fsP; rw [if_pos (by omega)]]
      have := HF.out
      unfold A41 at this ⊢
      rw [e] at this
      exact this
     have hR := HR.out
     clear HA HF HR
     go_wp2_with (first | refine load_41 gf _ rfl hF ?_ | refine store_41 w.heap.size _ _ rfl rfl hR ?_)
     intro w5 hc5 hb5
     have HC : Hid (A41 w5 w.heap.size (Ka.fst v)) := hc5
     have HB5 : Hid (Below w.heap.size w w5) := HB.out.trans (hb5.below (Nat.le_refl _))
     clear hc5 hb5 hF hR
     go_wp2
     (try simp only [Exit.inBlock, Exit.then])
     exact bodyPost_ret (results_cell_row rfl _ _ _ _ _ _ _ rfl HC.out Tryz.underlying134 rfl (size_41 _)) rfl ⟨rfl, HB5.out⟩
end Go.Proofs.YtcaalcjcpddhaaaGreat.Zz
namespace Go.Proofs.YtcaalcjcpddhaaaGreat.Zz
open Go.RowKit Num Ji Hp Ka Hr
theorem cel_madeJ {w : World} {base g n : Nat} {E : TypeId} {x y : Value} (h : w.ownsRow base E 2 (.slice (some ⟨g, 0, none⟩) n n) n (madeCells #[x, y] (n * 2)).toList) : Cel w g (bl2 n (fun _ => x) (fun _ => y)) E := by
 obtain ⟨_, h | ⟨g', cap, cur, e, _, hh, _, _, hs, ht⟩⟩ := h
 ·simp at h
 ·simp only [Value.slice.injEq, Option.some.injEq, Addr.mk.injEq] at e
  obtain ⟨⟨rfl, _, _⟩, _, rfl⟩ := e
  unfold Cel
  rw [hh, ← bl2_made n x y, ← ht]
  have e3 : cur.toList.take (n * 2) = cur.toList := List.take_of_length_le (by simp; omega)
  rw [e3]
def cdP (v : Nat → Nat) (q : Nat) : List Value := bl2 256 (fun c => .int .i64 ((if c < q then v c else 0 : Nat) : Int)) (fun c => .int .u64 ((if c < q then cod v c else 0 : Nat) : Int))
theorem cdP_zero (v : Nat → Nat) : cdP v 0 = bl2 256 (fun _ => .int .i64 0) (fun _ => .int .u64 0) := by unfold cdP; simp
theorem cdP_step (v : Nat → Nat) (q : Nat) (h : q < 256) : ((cdP v q).set (q * 2) (.int .i64 (v q : Nat))).set (q * 2 + 1) (.int .u64 (cod v q : Nat)) = cdP v (q + 1) := by
 have e := bl2_set 256 (fun c => .int .i64 ((if c < q then v c else 0 : Nat) : Int)) (fun c => .int .u64 ((if c < q then cod v c else 0 : Nat) : Int)) (fun c => .int .i64 ((if c < q + 1 then v c else 0 : Nat) : Int)) (fun c => .int .u64 ((if c < q + 1 then cod v c else 0 : Nat) : Int)) q h
  (fun j hj => by by_cases d : j < q <;> simp [d, show (j < q + 1 ↔ j < q) by omega]) (fun j hj => by by_cases d : j < q <;> simp [d, show (j < q + 1 ↔ j < q) by omega])
 rw [if_pos (show q < q + 1 by omega), if_pos (show q < q + 1 by omega)] at e
 exact e
theorem cdP_same (v : Nat → Nat) (q : Nat) (h : q < 256) (h0 : v q = 0) : cdP v q = cdP v (q + 1) := by
 rw [← cdP_step v q h]
 have c0 : cod v q = 0 := by unfold cod; rw [if_neg (by omega)]
 have e0 : (cdP v q)[q * 2]? = some (.int .i64 (v q : Nat)) := by
  unfold cdP
  rw [bl2_fst _ _ _ _ h, if_neg (by omega), h0]
 have e1 : (cdP v q)[q * 2 + 1]? = some (.int .u64 (cod v q : Nat)) := by
  unfold cdP
  rw [bl2_snd _ _ _ _ h, if_neg (by omega), c0]
 refine List.ext_getElem? fun j => ?_
 rw [List.getElem?_set, List.getElem?_set, List.length_set]
 have hlen : (cdP v q).length = 512 := length_bl2 _ _ _
 by_cases k1 : q * 2 + 1 = j
 ·subst k1; rw [if_pos rfl, if_pos (by omega), e1]
 ·rw [if_neg k1]
  by_cases k2 : q * 2 = j
  ·subst k2; rw [if_pos rfl, if_pos (by omega), e0]
  ·rw [if_neg k2]
theorem cdP_all (v : Nat → Nat) : cdP v 256 = cds v := by
 unfold cdP cds bl2
 refine List.map_congr_left fun j hj => ?_
 have := List.mem_range.1 hj
 have h2 : j / 2 < 256 := by omega
 simp only [h2, if_true]
set_option maxHeartbeats 4000000 in
theorem jcodes_c (ao : Option Addr) (l : List Int) (cap : Nat) (w : World) (hx : Nd w ao l) (hl : l.length ≤ 1048576) (hw : lok l = true) :
  Calls Tryz.prog 49 #[.slice ao l.length cap] w fun e w' => CO w (cntOf l) e w' := by
 obtain ⟨i0, hi, hz0, hz1, hz2⟩ := info_parts (show (Tryz.prog.info? 137).map (fun i => (i.zero, i.size, i.bytes)) = some (some (.agg #[.int .i64 0, .int .u64 0]), 2, 16) by kernel_rfl)
 have C := hide (jwithin_c ao l cap 40 w hx hl)
 obtain ⟨hk, hf⟩ : win l 40 = true ∧ fitb (cntOf l) = true := by unfold lok at hw; simpa using hw
 rw [hk] at C
 obtain ⟨h256, hbd⟩ := win_len hk
 have hs := fit_need hf
 have CF : Hid (∀ w0, Below w.heap.size w w0 → Calls Tryz.prog 78 #[.slice ao l.length cap] w0 fun e w' => e = .returned (.bool true) ∧ w' = w0) := fun w0 hb => by
  have := jfit_c ao l cap w0 (hx.keep hb) h256 hbd
  rw [hf] at this
  exact this
 obtain ⟨v, hv⟩ : ∃ v, Hid (v = cntOf l) := ⟨_, rfl⟩
 have CN : Hid (∀ w0, Below w.heap.size w w0 → Calls Tryz.prog 79 #[.slice ao l.length cap] w0 fun e w' => e = .returned (.agg (wvh (a41 (Ka.fst v))).toArray) ∧ Below w0.heap.size w0 w') := fun w0 hb => by
  have := jfirsts_c ao l cap w0 (hx.keep hb) h256 hbd hs
  rw [← hv.out] at this
  exact this
 rw [← hv.out] at hs ⊢
 obtain ⟨b, off, rfl, hbw, hcc⟩ := hx (by omega)
 have HC : Hid (∀ i, i < l.length → gi l i = (v i : Int) ∧ v i ≤ 40) := fun i hi => by
  have := hbd i hi
  rw [hv.out]
  unfold cntOf
  omega
 have HCC : Hid (∀ i, i < l.length → w.cell? ⟨b, off + i, none⟩ = some (.int .i64 (v i : Nat))) := fun i hi => by
  rw [← (HC.out i hi).1]; exact hcc i hi
 have HFL : Hid (∀ L q, L ≤ 40 → q ≤ 256 → Ka.fst v L + cl v L q ≤ 1099511627776) := fun L q hL hq => by
  have := fst_le v hs L hL
  have e : (2 : Nat) ^ 40 = 1099511627776 := by decide
  have := cl_mono v L hq
  omega
 have HL := hide h256
 have l256 : l.length ≤ 256 := by omega
 clear hx hw hk hf hs h256 hbd hcc
 go_enter Tryz.func49, Tryz.ntmps49
 go_wp2_with fail
 refine (C.out).mono ?_
 rintro e w1 ⟨rfl, hb⟩
 go_wp2_with fail
 refine (CF.out _ hb).mono ?_
 rintro e w2 ⟨rfl, rfl⟩
 go_wp2_with fail
 refine (CN.out _ hb).mono ?_
 rintro e w3 ⟨rfl, hb3⟩
 have hb4 := hb.trans (hb3.mono hb.size)
 clear hb hb3 C CF CN
 go_wp2_with (first | refine alloc_41 ?_)
 intro w4 hc4 hb5 hs5
 go_wp2_with (refine store_41 w3.heap.size _ _ rfl rfl hc4 ?_)
 intro w5 hc5 ho5
 have hz5 := ho5.size
 have h34 := hb4.size
 have HB5 := hide ((hb4.trans (hb5.mono hb4.size)).trans (ho5.below h34))
 have HN5 : Hid (A41 w5 w3.heap.size (fun L => Ka.fst v L + cl v L 0)) := hc5
 have hgn : w3.heap.size < w5.heap.size := by omega
 have hg0 : w.heap.size ≤ w3.heap.size := h34
 clear hc4 hc5 hb4 hb5 hs5 ho5 hz5 h34
 generalize w3.heap.size = gn at *
 go_wp2_with (at_make; refine wpList_make_full _ rfl _ _ 107 rfl w5.heap.size 137 i0 (.agg #[.int .i64 0, .int .u64 0]) 2 Tryz.underlying107 hi hz0 hz1 .i64 .i64 _ _ 256 rfl rfl rfl rfl ?b2 ?b3 ?b4 ?_)
 case b2 => rw [hz2]; omega
 case b3 => unfold maxLen; omega
 case b4 => simp
 intro w6 hown hgr
 have B6 := cel_madeJ hown
 have hb6 : Below w5.heap.size w5 w6 := (Below.refl _ _).grown hgr (Nat.le_refl _) (fun k h => by cases h)
 rw [← cdP_zero v] at B6
 have HC6 := hide B6
 have HN6 := hide (Cel.kept HN5.out hb6)
 have HB6 := hide (HB5.out.trans (hb6.mono (by omega)))
 clear hown hgr hb6 hi hz0 hz1 hz2 HN5 HB5 B6
 generalize w5.heap.size = gc at *
 go_wp2
 go_loopw [21] (fun vi wr => ∃ q : Nat, q ≤ l.length ∧ vi = .int .i64 q ∧ Hid (A41 wr gn (fun L => Ka.fst v L + cl v L q)) ∧ Hid (Cel wr gc (cdP v q) 137) ∧ Hid (Below w.heap.size w wr)) (fun vi _ => l.length - (intOf vi).toNat)
 case atStart => exact ⟨0, Nat.zero_le _, rfl, HN6, HC6, HB6⟩
 case round =>
  clear HN6 HC6 HB6
  obtain ⟨q, hq, rfl, HN, HD, HB⟩ := hrel
  by_cases hlt : q < l.length
  ·have hltz : (q : Int) < (l.length : Int) := by omega
   have q256 : (q : Int) < 256 := by omega
   have q5 : q < 256 := by omega
   obtain ⟨_, hv2⟩ := HC.out q hlt
   have c1 := (HB.out.cell (p := ⟨b, off + q, none⟩) hbw).trans (HCC.out q hlt)
   by_cases hp : 0 < v q
   ·have hpz : (0 : Int) < (v q : Int) := by omega
    have v41 : (v q : Int) < 41 := by omega
    have v5 : v q < 41 := by omega
    have n0 := HN.out.cell (v q) v5
    have f0 := Cel.frozen HN.out (v q)
    have e0 : wr.cell? ⟨gc, q * 2, none⟩ = some (.int .i64 0) := HD.out.cell (q * 2) (by unfold cdP; rw [bl2_fst _ _ _ _ q5, if_neg (by omega)]; rfl)
    have e1 : wr.cell? ⟨gc, q * 2 + 1, none⟩ = some (.int .u64 0) := HD.out.cell (q * 2 + 1) (by unfold cdP; rw [bl2_snd _ _ _ _ q5, if_neg (by omega)]; rfl)
    have f1 := HD.out.frozen (q * 2)
    have f2 := HD.out.frozen (q * 2 + 1)
    have hle := HFL.out (v q) q hv2 (by omega)
    have HCD : Hid (Ka.fst v (v q) + cl v (v q) q = cod v q) := by
     show _ = cod v q
     unfold cod
     rw [if_pos hp, code_is v q hp hv2 q5]
    have HS := hide (cdP_step v q q5)
    have hgg : gn ≠ gc := by omega
    have HN1 : Hid (A41 (((wr.setCell ⟨gc, q * 2, none⟩ (.int .i64 (v q : Nat))).setCell ⟨gc, q * 2 + 1, none⟩ (.int .u64 (cod v q : Nat))).setCell ⟨gn, v q, none⟩ (.int .u64 ((cod v q : Nat) + 1))) gn (fun L => Ka.fst v L + cl v L (q + 1))) := by
     have h0 : A41 ((wr.setCell ⟨gc, q * 2, none⟩ (.int .i64 (v q : Nat))).setCell ⟨gc, q * 2 + 1, none⟩ (.int .u64 (cod v q : Nat))) gn (fun L => Ka.fst v L + cl v L q) := Cel.other (Cel.other HN.out (by show gn ≠ gc; exact hgg) _) (by show gn ≠ gc; exact hgg) _
     have h1 := h0.set (fun L => Ka.fst v L + cl v L (q + 1)) (v q) v5 (fun j _ hj => by show _ + (cl v j q + _) = _; rw [if_neg (fun x => hj x.2.symm)]; rfl)
     have e : Ka.fst v (v q) + cl v (v q) (q + 1) = cod v q + 1 := by
      show _ + (cl v (v q) q + _) = _
      rw [if_pos ⟨hp, rfl⟩, ← HCD.out]
      omega
     rw [e] at h1
     exact h1
    have HD1 : Hid (Cel (((wr.setCell ⟨gc, q * 2, none⟩ (.int .i64 (v q : Nat))).setCell ⟨gc, q * 2 + 1, none⟩ (.int .u64 (cod v q : Nat))).setCell ⟨gn, v q, none⟩ (.int .u64 ((cod v q : Nat) + 1))) gc (cdP v (q + 1)) 137) := by
     have h0 := ((HD.out.set (q * 2) (.int .i64 (v q : Nat))).set (q * 2 + 1) (.int .u64 (cod v q : Nat)))
     rw [HS.out] at h0
     exact h0.other (by show gc ≠ gn; exact Ne.symm hgg) _
    have HB1 : Hid (Below w.heap.size w (((wr.setCell ⟨gc, q * 2, none⟩ (.int .i64 (v q : Nat))).setCell ⟨gc, q * 2 + 1, none⟩ (.int .u64 (cod v q : Nat))).setCell ⟨gn, v q, none⟩ (.int .u64 ((cod v q : Nat) + 1)))) := ((HB.out.setCell (by show w.heap.size ≤ gc; omega) _).setCell (by show w.heap.size ≤ gc; omega) _).setCell (by show w.heap.size ≤ gn; omega) _
    clear HN HD HB HS
    rw [HCD.out] at n0 hle
    clear HCD
    generalize cod v q = X at *
    generalize v q = x at *
    go_wp2
    exact ⟨⟨q + 1, by omega, by go_num, HN1, HD1, HB1⟩, by simp only [intOf]; omega⟩
   ·have hpz : ¬ (0 : Int) < (v q : Int) := by omega
    have HN1 : Hid (A41 wr gn (fun L => Ka.fst v L + cl v L (q + 1))) := by
     have e : (fun L => Ka.fst v L + cl v L (q + 1)) = (fun L => Ka.fst v L + cl v L q) := by funext L; show _ + (cl v L q + _) = _; rw [if_neg (fun x => hp x.1)]; rfl
     rw [e]; exact HN.out
    have HD1 : Hid (Cel wr gc (cdP v (q + 1)) 137) := by
     have := HD.out
     rw [cdP_same v q q5 (by omega)] at this
     exact this
    clear HN HD
    generalize v q = x at *
    go_wp2
    exact ⟨⟨q + 1, by omega, by go_num, HN1, HD1, HB⟩, by simp only [intOf]; omega⟩
  ·obtain rfl : q = l.length := by omega
   have HD1 : Hid (Cel wr gc (cds v) 137) := by
    have := HD.out
    rw [HL.out, cdP_all] at this
    exact this
   clear HD
   go_wp2
   go_ret2
   exact CO.mk gc rfl HD1.out (by omega) HB.out
end Go.Proofs.YtcaalcjcpddhaaaGreat.Zz
