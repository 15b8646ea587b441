/-
  The contract of the document's Build. The contracts of the document's Build, Check, Whole, Bits and Size. The contracts of the document's Access, Rank and Select. A row with counts that is handed in: what is known of it. errors.As at the target of package ints (a struct of a number and a text): an error of that very type is found, and the target holds it; numberOf answers its number. Plain arithmetic of rows of bits, more: what is laid over words (put), words that are copied, and the rows that append and join make.
-/
import Derived.Test.YtpeecabfcgijhaaGreatDoorT02
import Derived.Deep.DeepCutAuto
import Derived.Deep.CutBlock
import Derived.Test.YtpeecabfcgijhaaGreatDoorT00
import Derived.WalkKit
import Derived.LaidEql
import Derived.Stop.Asserts
import Derived.RowKitTokens
import Derived.WalkSmall
import Derived.Test.YtpeecabfcgijhaaGreatDoorT01
set_option linter.unusedVariables false
set_option linter.unusedSimpArgs false
set_option maxRecDepth 100000
set_option maxHeartbeats 16000000
namespace Go.Proofs.YtpeecabfcgijhaaGreatDoor
open Go.RowKit Num Bit
def iv (l : List Int) : List Value := l.map fun n : Int => Value.int .i64 n
theorem length_iv (l : List Int) : (iv l).length = l.length := by simp [iv]
theorem iv_snoc (l : List Int) (v : Int) : iv l ++ [.int .i64 v] = iv (l ++ [v]) := by simp [iv]
theorem iv_get (l : List Int) (i : Nat) (h : i < l.length) : (iv l)[i]? = some (.int .i64 (gi l i)) := by
 unfold iv
 rw [List.getElem?_map, gi_get l i h]; rfl
theorem supP_succ (N : Int) (xs : List Nat) (q : Nat) : supP N xs (q + 1) = supP N xs q ++ [supI N xs q] := by
 unfold supP; rw [List.range_succ, List.map_append]; rfl
theorem subP_succ (N : Int) (xs : List Nat) (q : Nat) : subP N xs (q + 1) = subP N xs q ++ [subI N xs q] := by
 unfold subP; rw [List.range_succ, List.map_append]; rfl
theorem nd_own {w : World} {base n c : Nat} {ao : Option Addr} {l : List Int} (h : w.ownsRow base 3 1 (.slice ao n c) n (iv l)) : Nd w ao l := by
 intro h0
 have hlen : (iv l).length = n * 1 := h.1
 rw [length_iv] at hlen
 have hk := fun k hk => h.lt k hk
 have hc := fun g hg => h.cells (g := g) hg
 obtain ⟨_, ⟨e, e2⟩ | ⟨g, cap, cur, e, _⟩⟩ := h
 ·omega
 ·simp only [Value.slice.injEq] at e
  obtain ⟨rfl, _, rfl⟩ := e
  refine ⟨g, 0, rfl, (hk g rfl).2, fun i hi => ?_⟩
  rw [← hc g rfl i _ (iv_get l i hi)]
  unfold Addr.add
  split
  ·subst_vars; rfl
  ·simp
theorem owns_set {w : World} {base e n : Nat} {v u : Value} {vs : List Value} {a : Addr} (h : w.ownsRow base e 1 v n vs) (ha : a.block < base) : (w.setCell a u).ownsRow base e 1 v n vs := by
 obtain ⟨h1, h2 | ⟨g, cap, cur, e1, e2, hh, r⟩⟩ := h
 ·exact ⟨h1, .inl h2⟩
 ·exact ⟨h1, .inr ⟨g, cap, cur, e1, e2, (Below.heap_setCell w a u g (by omega)).trans hh, r⟩⟩
def Sup (w : World) (bs : Nat) (l : List Int) : Prop := ∀ i, i < l.length → w.cell? ⟨bs, i, none⟩ = some (.int .i64 (gi l i))
theorem Sup.keep {w w' : World} {bs base : Nat} {l : List Int} (h : Sup w bs l) (hb : Below base w w') (hlt : bs < base) : Sup w' bs l := fun i hi => (hb.cell (p := ⟨bs, i, none⟩) hlt).trans (h i hi)
theorem Sup.other {w : World} {bs : Nat} {l : List Int} (h : Sup w bs l) {a : Addr} (ha : bs ≠ a.block) (v : Value) : Sup (w.setCell a v) bs l := fun i hi => (World.cell?_of_block (w := w) (Below.heap_setCell w a v bs ha)).trans (h i hi)
theorem sup_of {w : World} {base n c : Nat} {ao : Option Addr} {l : List Int} (h : w.ownsRow base 3 1 (.slice ao n c) n (iv l)) (hn : 0 < n) : ∃ bs, ao = some ⟨bs, 0, none⟩ ∧ base ≤ bs ∧ Sup w bs l := by
 have hlen : (iv l).length = n * 1 := h.1
 rw [length_iv] at hlen
 have hc := fun g hg => h.cells (g := g) hg
 obtain ⟨_, ⟨e, e2⟩ | ⟨g, cap, cur, e, hg, _⟩⟩ := h
 ·omega
 ·simp only [Value.slice.injEq] at e
  obtain ⟨rfl, _, rfl⟩ := e
  refine ⟨g, rfl, hg, fun i hi => ?_⟩
  rw [← hc g rfl i _ (iv_get l i hi)]
  unfold Addr.add
  split
  ·subst_vars; rfl
  ·simp
theorem below_set {base : Nat} {w w' : World} (h : Below base w w') (b i : Nat) (v : Value) (hb : base ≤ b) : Below base w (w'.setCell ⟨b, i, none⟩ v) := h.setCell hb _
theorem sup_nd {w : World} {bs : Nat} {l : List Int} (h : Sup w bs l) (hlt : bs < w.heap.size) : Nd w (some ⟨bs, 0, none⟩) l := fun _ => ⟨bs, 0, rfl, hlt, fun i hi => by rw [Nat.zero_add]; exact h i hi⟩
theorem Hid.mk' {p : Prop} (h : p) : Hid p := h
structure BI (w wr : World) (m n cap : Nat) (ao : Option Addr) (g : Nat) (sv tv : Value) : Prop where
 b1 : Cel wr w.heap.size [.int .i64 m, .slice ao n cap] 24
 b2 : Cel wr (w.heap.size + 1) [.int .i64 0, .slice none 0 0, .slice none 0 0, .slice none 0 0] 29
 bx : Cel wr g [.int .i64 m, .slice ao n cap, sv, tv] 29
 hg : w.heap.size + 1 < g
 hw : Below w.heap.size w wr
theorem BI.keep {w wr w' : World} {m n cap : Nat} {ao : Option Addr} {g : Nat} {sv tv : Value} (h : BI w wr m n cap ao g sv tv) {base : Nat} (hb : Below base wr w') (hg : g < base) : BI w w' m n cap ao g sv tv :=
 have := h.hg
 ⟨h.b1.keep hb (by omega), h.b2.keep hb (by omega), h.bx.keep hb hg, h.hg, h.hw.trans (hb.mono (by omega))⟩
theorem BI.sup {w wr : World} {m n cap : Nat} {ao : Option Addr} {g : Nat} {sv tv : Value} (h : BI w wr m n cap ao g sv tv) (v : Value) : BI w (wr.setCell ⟨g, 2, none⟩ v) m n cap ao g v tv :=
 have := h.hg
 ⟨h.b1.other (by show w.heap.size ≠ g; omega) v, h.b2.other (by show w.heap.size + 1 ≠ g; omega) v, h.bx.set 2 v, h.hg, h.hw.setCell (by show w.heap.size ≤ g; omega) _⟩
theorem BI.sub {w wr : World} {m n cap : Nat} {ao : Option Addr} {g : Nat} {sv tv : Value} (h : BI w wr m n cap ao g sv tv) (v : Value) : BI w (wr.setCell ⟨g, 3, none⟩ v) m n cap ao g sv v :=
 have := h.hg
 ⟨h.b1.other (by show w.heap.size ≠ g; omega) v, h.b2.other (by show w.heap.size + 1 ≠ g; omega) v, h.bx.set 3 v, h.hg, h.hw.setCell (by show w.heap.size ≤ g; omega) _⟩
theorem rbuild_ok (N : Int) (ao : Option Addr) (xs : List Nat) (cap : Nat) (w : World) (hx : Wd w ao xs) (hf : Fit xs) (hk : chk N xs = true) :
  Calls Tryz.prog 41 #[.agg #[.int .i64 N, .slice ao xs.length cap]] w fun e w' => ∃ so sc tO tc, e = .returned (.tuple #[.agg #[.int .i64 N, .slice ao xs.length cap, .slice so (supL N xs).length sc, .slice tO (subL N xs).length tc], .int .i64 0]) ∧ Nd w' so (supL N xs) ∧ (supL N xs).length ≤ sc ∧ Nd w' tO (subL N xs) ∧ (subL N xs).length ≤ tc ∧ Below w.heap.size w w' ∧ Fr w.heap.size so ∧ Fr w.heap.size tO := by
 obtain ⟨h0, h1, h2, _⟩ := chk_out N xs hk
 obtain ⟨m, rfl⟩ := Int.eq_ofNat_of_zero_le h0
 obtain ⟨i0, hi, hz0, hz1, hz2⟩ := info_parts Tryz.info3
 obtain ⟨W, hW⟩ : ∃ W, W = (w.alloc (.cells #[.int .i64 m, .slice ao xs.length cap] 24)).alloc (.cells #[.int .i64 0, .slice none 0 0, .slice none 0 0, .slice none 0 0] 29) := ⟨_, rfl⟩
 have bW := yb2 hW
 have B1 := yc3 hW
 have B2 := yc2 hW
 have C1 : Hid (∀ w0, w0 = W → Calls Tryz.prog 7 #[.agg #[.int .i64 m, .slice ao xs.length cap]] w0 fun e w' => e = .returned (.bool true) ∧ Below w0.heap.size w0 w') := fun w0 h => by
  subst h
  have := refcheck_c m ao xs cap w0 (hx.keep bW) hf
  rw [hk] at this
  exact this
 go_enter Tryz.func41, Tryz.ntmps41
 go_wp2_with fail
 rw [← hW]
 refine (C1.out _ rfl).mono ?_
 rintro e w1 ⟨rfl, hb⟩
 have bw1 := bW.trans (hb.mono bW.size)
 replace B1 := B1.kept hb
 replace B2 := B2.kept hb
 have z2 := B2.lt
 clear hb C1 hW bW W
 have r0 := B1.cell 0 rfl
 have r1 := B1.cell 1 rfl
 go_wp2
 go_loopw [5] (fun i wr => ∃ (q : Nat) (so : Option Addr) (sc : Nat), q ≤ m / 512 + 1 ∧ i = .int .i64 q ∧ q ≤ sc ∧ BI w wr m xs.length cap ao w1.heap.size (.slice so q sc) (.slice none 0 0) ∧ wr.ownsRow (w1.heap.size + 1) 3 1 (.slice so q sc) q (iv (supP m xs q))) (fun i _ => m / 512 + 1 - (intOf i).toNat)
 case atStart => exact ⟨0, none, 0, by omega, rfl, Nat.le_refl _, ⟨B1.alloc _, B2.alloc _, Cel.new w1 _ _, z2, bw1.alloc (by omega) _⟩, World.ownsRow_nil _ _ _ _⟩
 case round =>
  obtain ⟨q, so, sc, hq, rfl, hqc, hB, hown⟩ := hrel
  have r0 := hB.b1.cell 0 rfl
  have r1 := hB.b1.cell 1 rfl
  by_cases hlt : q ≤ m / 512
  ·have hlt2 : (q : Int) ≤ (m : Int) / 512 := by omega
   have mu : IntKind.i64.wrap (512 * (q : Int)) = 512 * (q : Int) := by rw [IntKind.wrap_i64]; omega
   go_wp2
   refine region_g [9] (fun w' => BI w w' m xs.length cap ao w1.heap.size (.slice so q sc) (.slice none 0 0)) (by kernel_rfl) ?_
   have hS : BI w wr.drew m xs.length cap ao w1.heap.size (.slice so q sc) (.slice none 0 0) := ⟨hB.b1, hB.b2, hB.bx, hB.hg, hB.hw.drew⟩
   refine AnyG.tk 0 hS ?_
   refine AnyG.tf 1 hS rfl (fun w0 h0 => by have c2 := h0.bx.cell 2 rfl; go_simp; try with_reducible rfl) ?_
   refine AnyG.tf 2 hS rfl (fun w0 h0 => by have c0 := h0.b1.cell 0 rfl; have c1 := h0.b1.cell 1 rfl; go_simp; try with_reducible rfl) ?_
   refine AnyG.tk 3 hS ?_
   refine AnyG.tk 4 hS ?_
   refine AnyG.o1 5 ?_
   intro K hK
   go_simp
   refine (refones_c _ _ _ _ _ _ (hx.keep hS.hw) hf).mono ?_
   rintro e w2 ⟨rfl, hb⟩
   have g2 : w1.heap.size < wr.drew.heap.size := hS.bx.lt
   have hS2 := hS.keep hb g2
   have own2 := Ap.owns_below (w := wr.drew) hown hb
   refine hK.out _ _ (fun _ => hS2) ?_
   clear hK K
   try simp only [Act.put, yq3, yq4, yq5]
   obtain ⟨Z, hZ⟩ : ∃ Z, Hid (Z = supI m xs q) := ⟨_, rfl⟩
   have eZ : onesI m xs (512 * (q : Int)) = Z := hZ.out.symm
   rw [eZ]
   refine AnyG.o1 6 ?_
   intro K hK
   go_simp
   have hS3 : BI w (w2.alloc (.cells #[.int .i64 Z] 3)) m xs.length cap ao w1.heap.size (.slice so q sc) (.slice none 0 0) := hS2.keep (below_alloc w2 _) hS2.bx.lt
   refine hK.out _ _ (fun _ => hS3) ?_
   clear hK K
   try simp only [Act.put, yq3, yq4, yq5]
   refine AnyG.o1 7 ?_
   intro K hK
   refine Ap.step_append_u (by rfl) _ _ _ (by rfl) (w1.heap.size + 1) 3 i0 (.int .i64 0) 8 Tryz.underlying27 hi hz0 hz1 hz2 rfl (.slice so q sc) q (iv (supP m xs q)) (by rfl) (own2.alloc _) (some ⟨w2.heap.size, 0, none⟩) 1 1 [.int .i64 Z] (by rfl) rfl ?c1 ?c2 ?c3 ?c4 ?c5 ?c6
   case c1 => exact fun _ => ⟨_, rfl, fun j u hj => by
    match j, hj with
    | 0, hj => simp at hj; subst hj; simp [Addr.add]⟩
   case c2 => intro u hu; simp at hu; subst hu; rfl
   case c3 => unfold maxLen; omega
   case c4 => omega
   case c5 => have := hS3.bx.lt; omega
   intro so2 sc2 w4 own4 hle4 hB4 _ _ _
   have hS4 := hS3.keep hB4 (Nat.lt_succ_self _)
   refine hK.out _ _ (fun _ => hS4) ?_
   clear hK K
   try simp only [Act.put, yq3, yq4, yq5]
   rw [iv_snoc, hZ.out, ← supP_succ] at own4
   refine AnyG.tk 8 hS4 ?_
   refine AnyG.o1 9 ?_
   intro K hK
   have x2 := hS4.bx.cell 2 rfl
   have y2 := hS4.bx.frozen 2
   go_simp
   refine hK.out _ _ (fun h => absurd (by decide) h) ?_
   clear hK K
   try simp only [Act.put, yq3, yq4, yq5]
   refine AnyG.done (by kernel_rfl) ?_ _
   have hS5 := hS4.sup (.slice so2 (q + 1) sc2)
   have own5 : (w4.setCell ⟨w1.heap.size, 2, none⟩ (.slice so2 (q + 1) sc2)).ownsRow (w1.heap.size + 1) 3 1 (.slice so2 (q + 1) sc2) (q + 1) (iv (supP m xs (q + 1))) := owns_set own4 (Nat.lt_succ_self _)
   have HO : Hid ((w4.setCell ⟨w1.heap.size, 2, none⟩ (.slice so2 (q + 1) sc2)).ownsRow (w1.heap.size + 1) 3 1 (.slice so2 (q + 1) sc2) (q + 1) (iv (supP m xs (q + 1)))) := own5
   clear own5 own4 own2 hown hS hS2 hS3 hS4 hB hB4 hi hz0 hz1 hz2
   go_wp2
   exact ⟨⟨q + 1, so2, sc2, by omega, by go_num, by omega, hS5, HO.out⟩, by simp only [intOf]; omega⟩
  ·obtain rfl : q = m / 512 + 1 := by omega
   have hlt2 : ¬ ((m / 512 + 1 : Nat) : Int) ≤ (m : Int) / 512 := by omega
   obtain ⟨bs, rfl, hbs, hSup⟩ := sup_of hown (by omega)
   rw [show supP m xs (m / 512 + 1) = supL m xs by unfold supL; rw [Int.toNat_natCast]] at hSup
   obtain ⟨M, hM⟩ : ∃ M, Hid (M = m / 512 + 1) := ⟨_, rfl⟩
   rw [← hM.out] at hB hqc hlt2
   have lS : (supL m xs).length = M := by rw [length_supL, Int.toNat_natCast]; exact hM.out.symm
   have hbl : bs < wr.heap.size := (hown.lt bs rfl).2
   have hlx : xs.length ≤ 16384 := by omega
   rw [← hM.out]
   obtain ⟨b, hbd⟩ : ∃ b, b = wr.heap.size := ⟨_, rfl⟩
   rw [← hbd] at hbl
   have hgb : w1.heap.size < b := by rw [hbd]; exact hB.bx.lt
   have hwb : w.heap.size ≤ b := by have := hB.hg; omega
   clear hown hq hlt
   go_wp2
   go_loopw [6] (fun i wz => ∃ (q : Nat) (tO : Option Addr) (tc : Nat), q ≤ xs.length ∧ i = .int .i64 q ∧ q ≤ tc ∧ BI w wz m xs.length cap ao w1.heap.size (.slice (some ⟨bs, 0, none⟩) M sc) (.slice tO q tc) ∧ Sup wz bs (supL m xs) ∧ b ≤ wz.heap.size ∧ wz.ownsRow b 3 1 (.slice tO q tc) q (iv (subP m xs q))) (fun i _ => xs.length - (intOf i).toNat)
   case atStart => exact ⟨0, none, 0, by omega, rfl, Nat.le_refl _, hB, hSup, by omega, World.ownsRow_nil _ _ _ _⟩
   case round =>
    obtain ⟨q, tO, tc, hq, rfl, hqc2, hB2, hSup2, hbw, hown⟩ := hrel
    clear hB hSup
    have r0 := hB2.b1.cell 0 rfl
    have r1 := hB2.b1.cell 1 rfl
    by_cases hlt : q < xs.length
    ·have hlt3 : (q : Int) < (xs.length : Int) := by omega
     have mu : IntKind.i64.wrap (64 * (q : Int)) = 64 * (q : Int) := by rw [IntKind.wrap_i64]; omega
     have q8 : (q : Int) / 8 < (M : Int) := by have := hM.out; omega
     have q8n : q / 8 < (supL m xs).length := by rw [lS]; have := hM.out; omega
     have eS : gi (supL m xs) (q / 8) = supI m xs (q / 8) := by unfold supL; rw [gi_supP _ _ _ _ (by rw [Int.toNat_natCast]; have := hM.out; omega)]
     have e8 : ((q : Int) / 8).toNat = q / 8 := by omega
     have w8 : IntKind.i64.wrap ((q : Int) / 8) = (q : Int) / 8 := by rw [IntKind.wrap_i64]; omega
     have p8 : (0 : Int) ≤ (q : Int) / 8 := by omega
     obtain ⟨Y, hY⟩ : ∃ Y, Hid (Y = supI m xs (q / 8)) := ⟨_, rfl⟩
     obtain ⟨Z, hZ⟩ : ∃ Z, Hid (Z = onesI m xs (64 * (q : Int))) := ⟨_, rfl⟩
     have bY := supI_bound m xs (q / 8)
     have bZ := onesI_bound m xs (64 * (q : Int))
     rw [← hY.out] at bY eS
     rw [← hZ.out] at bZ
     have dif : IntKind.i64.wrap (Z - Y) = Z - Y := by rw [IntKind.wrap_i64]; omega
     have eD : Hid (Z - Y = subI m xs q) := by show Z - Y = subI m xs q; rw [hZ.out, hY.out]; rfl
     go_wp2
     refine region_g [16] (fun w' => BI w w' m xs.length cap ao w1.heap.size (.slice (some ⟨bs, 0, none⟩) M sc) (.slice tO q tc) ∧ Sup w' bs (supL m xs)) (by kernel_rfl) ?_
     have hS : BI w wr.drew m xs.length cap ao w1.heap.size (.slice (some ⟨bs, 0, none⟩) M sc) (.slice tO q tc) ∧ Sup wr.drew bs (supL m xs) := ⟨⟨hB2.b1, hB2.b2, hB2.bx, hB2.hg, hB2.hw.drew⟩, hSup2⟩
     have hbwd : b ≤ wr.drew.heap.size := hbw
     refine AnyG.tk 0 hS ?_
     refine AnyG.tf 1 hS rfl (fun w0 h0 => by have c3 := h0.1.bx.cell 3 rfl; go_simp; try with_reducible rfl) ?_
     refine AnyG.tf 2 hS rfl (fun w0 h0 => by have c0 := h0.1.b1.cell 0 rfl; have c1 := h0.1.b1.cell 1 rfl; go_simp; try with_reducible rfl) ?_
     refine AnyG.tk 3 hS ?_
     refine AnyG.tk 4 hS ?_
     refine AnyG.tk 6 hS ?_
     refine AnyG.tf 7 hS rfl (fun w0 h0 => by have c2 := h0.1.bx.cell 2 rfl; go_simp; try with_reducible rfl) ?_
     refine AnyG.tk 8 hS ?_
     refine AnyG.tk 9 hS ?_
     refine AnyG.tk 10 hS ?_
     refine AnyG.tf 11 hS rfl (fun w0 h0 => by have c9 := h0.2 _ q8n; rw [eS] at c9; go_simp; try with_reducible rfl) ?_
     refine AnyG.o1 5 ?_
     intro K hK
     go_simp
     refine (refones_c _ _ _ _ _ _ (hx.keep hS.1.hw) hf).mono ?_
     rintro e w2 ⟨rfl, hb⟩
     have g2 : w1.heap.size < wr.drew.heap.size := hS.1.bx.lt
     have hS2 := hS.1.keep hb g2
     have hP2 := hS.2.keep hb (Nat.lt_of_lt_of_le hbl hbwd)
     have own2 := Ap.owns_below (w := wr.drew) hown hb
     have hbw2 : b ≤ w2.heap.size := Nat.le_trans hbwd hb.size
     refine hK.out _ _ (fun _ => ⟨hS2, hP2⟩) ?_
     clear hK K
     try simp only [Act.put, yq3, yq4, yq5]
     rw [← hZ.out]
     replace hS := And.intro hS2 hP2
     refine AnyG.tk 12 hS ?_
     obtain ⟨D, hD⟩ : ∃ D, Hid (D = Z - Y) := ⟨_, rfl⟩
     rw [← hD.out]
     refine AnyG.o1 13 ?_
     intro K hK
     go_simp
     have hS3 : BI w (w2.alloc (.cells #[.int .i64 D] 3)) m xs.length cap ao w1.heap.size (.slice (some ⟨bs, 0, none⟩) M sc) (.slice tO q tc) := hS2.keep (below_alloc w2 _) hS2.bx.lt
     have hP3 : Sup (w2.alloc (.cells #[.int .i64 D] 3)) bs (supL m xs) := hP2.keep (below_alloc w2 _) (Nat.lt_of_lt_of_le hbl hbw2)
     refine hK.out _ _ (fun _ => ⟨hS3, hP3⟩) ?_
     clear hK K
     try simp only [Act.put, yq3, yq4, yq5]
     refine AnyG.o1 14 ?_
     intro K hK
     refine Ap.step_append_u (by rfl) _ _ _ (by rfl) b 3 i0 (.int .i64 0) 8 Tryz.underlying27 hi hz0 hz1 hz2 rfl (.slice tO q tc) q (iv (subP m xs q)) (by rfl) (own2.alloc _) (some ⟨w2.heap.size, 0, none⟩) 1 1 [.int .i64 D] (by rfl) rfl ?d1 ?d2 ?d3 ?d4 ?d5 ?d6
     case d1 => exact fun _ => ⟨_, rfl, fun j u hj => by
      match j, hj with
      | 0, hj => simp at hj; subst hj; simp [Addr.add]⟩
     case d2 => intro u hu; simp at hu; subst hu; rfl
     case d3 => unfold maxLen; omega
     case d4 => omega
     case d5 => simp; omega
     intro to2 tc2 w4 own4 hle4 hB4 _ _ hsz4
     have hS4 := hS3.keep hB4 hgb
     have hP4 := hP3.keep hB4 hbl
     refine hK.out _ _ (fun _ => ⟨hS4, hP4⟩) ?_
     clear hK K
     try simp only [Act.put, yq3, yq4, yq5]
     rw [iv_snoc, hD.out, eD.out, ← subP_succ] at own4
     replace hS := And.intro hS4 hP4
     refine AnyG.tk 15 hS ?_
     refine AnyG.o1 16 ?_
     intro K hK
     have x3 := hS4.bx.cell 3 rfl
     have y3 := hS4.bx.frozen 3
     go_simp
     refine hK.out _ _ (fun h => absurd (by decide) h) ?_
     clear hK K
     try simp only [Act.put, yq3, yq4, yq5]
     refine AnyG.done (by kernel_rfl) ?_ _
     have hS5 := hS4.sub (.slice to2 (q + 1) tc2)
     have hP5 := hP4.other (a := ⟨w1.heap.size, 3, none⟩) (show bs ≠ w1.heap.size by omega) (.slice to2 (q + 1) tc2)
     have HO : Hid ((w4.setCell ⟨w1.heap.size, 3, none⟩ (.slice to2 (q + 1) tc2)).ownsRow b 3 1 (.slice to2 (q + 1) tc2) (q + 1) (iv (subP m xs (q + 1)))) := owns_set own4 hgb
     have hs5 : b ≤ (w4.setCell ⟨w1.heap.size, 3, none⟩ (.slice to2 (q + 1) tc2)).heap.size := by
      rw [show (w4.setCell ⟨w1.heap.size, 3, none⟩ (.slice to2 (q + 1) tc2)).heap.size = w4.heap.size by simp [World.setCell]]
      have : (w2.alloc (.cells #[.int .i64 D] 3)).heap.size = w2.heap.size + 1 := by simp
      omega
     clear own4 own2 hown hS hS2 hS3 hS4 hB2 hB4 hi hz0 hz1 hz2 hP2 hP3 hP4 hSup2
     go_wp2
     exact ⟨⟨q + 1, to2, tc2, by omega, by go_num, by omega, hS5, hP5, hs5, HO.out⟩, by simp only [intOf]; omega⟩
    ·obtain rfl : q = xs.length := by omega
     have hlt3 : ¬ ((xs.length : Nat) : Int) < (xs.length : Int) := by omega
     have x0 := hB2.bx.cell 0 rfl
     have x1 := hB2.bx.cell 1 rfl
     have x2 := hB2.bx.cell 2 rfl
     have x3 := hB2.bx.cell 3 rfl
     have y0 := hB2.b2.cell 0 rfl
     have y1 := hB2.b2.cell 1 rfl
     have y2 := hB2.b2.cell 2 rfl
     have y3 := hB2.b2.cell 3 rfl
     have f0 := hB2.b2.frozen 0
     have f1 := hB2.b2.frozen 1
     have f2 := hB2.b2.frozen 2
     have f3 := hB2.b2.frozen 3
     have gb : w.heap.size + 1 < b := by have := hB2.hg; omega
     have nb : bs ≠ w.heap.size + 1 := by have := hB2.hg; omega
     have hC : Cel ((((wr.setCell ⟨w.heap.size + 1, 0, none⟩ (.int .i64 m)).setCell ⟨w.heap.size + 1, 1, none⟩ (.slice ao xs.length cap)).setCell ⟨w.heap.size + 1, 2, none⟩ (.slice (some ⟨bs, 0, none⟩) M sc)).setCell ⟨w.heap.size + 1, 3, none⟩ (.slice tO xs.length tc)) (w.heap.size + 1) [.int .i64 m, .slice ao xs.length cap, .slice (some ⟨bs, 0, none⟩) M sc, .slice tO xs.length tc] 29 := (((hB2.b2.set 0 (.int .i64 m)).set 1 (.slice ao xs.length cap)).set 2 (.slice (some ⟨bs, 0, none⟩) M sc)).set 3 (.slice tO xs.length tc)
     have HT := nd_own (owns_set (owns_set (owns_set (owns_set hown (a := ⟨w.heap.size + 1, 0, none⟩) (u := .int .i64 m) gb) (a := ⟨w.heap.size + 1, 1, none⟩) (u := .slice ao xs.length cap) gb) (a := ⟨w.heap.size + 1, 2, none⟩) (u := .slice (some ⟨bs, 0, none⟩) M sc) gb) (a := ⟨w.heap.size + 1, 3, none⟩) (u := .slice tO xs.length tc) gb)
     have HP := (((hSup2.other (a := ⟨w.heap.size + 1, 0, none⟩) nb (.int .i64 m)).other (a := ⟨w.heap.size + 1, 1, none⟩) nb (.slice ao xs.length cap)).other (a := ⟨w.heap.size + 1, 2, none⟩) nb (.slice (some ⟨bs, 0, none⟩) M sc)).other (a := ⟨w.heap.size + 1, 3, none⟩) nb (.slice tO xs.length tc)
     have HB := below_set (below_set (below_set (below_set hB2.hw (w.heap.size + 1) 0 (.int .i64 m) (Nat.le_succ _)) (w.heap.size + 1) 1 (.slice ao xs.length cap) (Nat.le_succ _)) (w.heap.size + 1) 2 (.slice (some ⟨bs, 0, none⟩) M sc) (Nat.le_succ _)) (w.heap.size + 1) 3 (.slice tO xs.length tc) (Nat.le_succ _)
     have HZ := (below_set (below_set (below_set (below_set (Below.refl w.heap.size wr) (w.heap.size + 1) 0 (.int .i64 m) (Nat.le_succ _)) (w.heap.size + 1) 1 (.slice ao xs.length cap) (Nat.le_succ _)) (w.heap.size + 1) 2 (.slice (some ⟨bs, 0, none⟩) M sc) (Nat.le_succ _)) (w.heap.size + 1) 3 (.slice tO xs.length tc) (Nat.le_succ _)).size
     have HU := sup_nd HP (Nat.lt_of_lt_of_le (Nat.lt_of_lt_of_le hbl hbw) HZ)
     have F1 : Fr w.heap.size (some ⟨bs, 0, none⟩) := fun a ha => by
      cases ha
      have := hB2.hg
      show w.heap.size ≤ bs
      omega
     have F2 : Fr w.heap.size tO := own_fr hown (by omega)
     have HF := And.intro HU (And.intro HT (And.intro HB (And.intro F1 F2)))
     replace HF := Hid.mk' HF
     have k0 := hC.cell 0 rfl
     have k1 := hC.cell 1 rfl
     have k2 := hC.cell 2 rfl
     have k3 := hC.cell 3 rfl
     clear HT HP HB hC hSup2 hown h2 HZ HU F1 F2
     go_wp2
     refine bodyPost_ret (v := .tuple #[.agg #[.int .i64 m, .slice ao xs.length cap, .slice (some ⟨bs, 0, none⟩) M sc, .slice tO xs.length tc], .int .i64 0]) (by simp [results, Tryz.results41, go_sem, k0, k1, k2, k3]) rfl ⟨some ⟨bs, 0, none⟩, sc, tO, tc, ?_, HF.out.1, ?_, HF.out.2.1, ?_, HF.out.2.2⟩
     ·rw [length_subL]
     ·exact hqc
     ·rw [length_subL]; exact hqc2
structure PlOut (base : Nat) (w : World) (bo : Option Addr) (X : List Nat) (bc : Nat) (so : Option Addr) (S : List Int) (sc : Nat) (tO : Option Addr) (T : List Int) (tc : Nat) : Prop where
 x : Wd w bo X
 xc : X.length ≤ bc
 s : Nd w so S
 sc : S.length ≤ sc
 t : Nd w tO T
 tc : T.length ≤ tc
 sn : Fr base so
 tn : Fr base tO
theorem PlOut.keep {base : Nat} {w w' : World} {bo : Option Addr} {X : List Nat} {bc : Nat} {so : Option Addr} {S : List Int} {sc : Nat} {tO : Option Addr} {T : List Int} {tc : Nat} (h : PlOut base w bo X bc so S sc tO T tc) (hb : Below w.heap.size w w') : PlOut base w' bo X bc so S sc tO T tc :=
 ⟨h.x.keep hb, h.xc, h.s.keep hb, h.sc, h.t.keep hb, h.tc, h.sn, h.tn⟩
theorem rbuild_bad (N : Int) (ao : Option Addr) (xs : List Nat) (cap : Nat) (w : World) (hx : Wd w ao xs) (hf : Fit xs) (hk : chk N xs = false) :
  Calls Tryz.prog 41 #[.agg #[.int .i64 N, .slice ao xs.length cap]] w fun e w' => e = .returned (.tuple #[.agg #[.int .i64 0, .slice none 0 0, .slice none 0 0, .slice none 0 0], .int .i64 2]) ∧ Below w.heap.size w w' := by
 obtain ⟨W, hW⟩ : ∃ W, W = (w.alloc (.cells #[.int .i64 N, .slice ao xs.length cap] 24)).alloc (.cells #[.int .i64 0, .slice none 0 0, .slice none 0 0, .slice none 0 0] 29) := ⟨_, rfl⟩
 have bW := yb2 hW
 have B2 := yc2 hW
 have C1 : Hid (∀ w0, w0 = W → Calls Tryz.prog 7 #[.agg #[.int .i64 N, .slice ao xs.length cap]] w0 fun e w' => e = .returned (.bool false) ∧ Below w0.heap.size w0 w') := fun w0 h => by
  subst h
  have := refcheck_c N ao xs cap w0 (hx.keep bW) hf
  rw [hk] at this
  exact this
 go_enter Tryz.func41, Tryz.ntmps41
 go_wp2_with fail
 rw [← hW]
 refine (C1.out _ rfl).mono ?_
 rintro e w1 ⟨rfl, hb⟩
 have bw1 := bW.trans (hb.mono bW.size)
 replace B2 := B2.kept hb
 clear hb C1 hW bW W
 have y0 := B2.cell 0 rfl
 have y1 := B2.cell 1 rfl
 have y2 := B2.cell 2 rfl
 have y3 := B2.cell 3 rfl
 have f0 := B2.frozen 0
 have f1 := B2.frozen 1
 have f2 := B2.frozen 2
 have f3 := B2.frozen 3
 have hC := (((B2.set 0 (.int .i64 0)).set 1 (.slice none 0 0)).set 2 (.slice none 0 0)).set 3 (.slice none 0 0)
 have HB := below_set (below_set (below_set (below_set bw1 (w.heap.size + 1) 0 (.int .i64 0) (Nat.le_succ _)) (w.heap.size + 1) 1 (.slice none 0 0) (Nat.le_succ _)) (w.heap.size + 1) 2 (.slice none 0 0) (Nat.le_succ _)) (w.heap.size + 1) 3 (.slice none 0 0) (Nat.le_succ _)
 have k0 := hC.cell 0 rfl
 have k1 := hC.cell 1 rfl
 have k2 := hC.cell 2 rfl
 have k3 := hC.cell 3 rfl
 go_wp2
 exact bodyPost_ret (v := .tuple #[.agg #[.int .i64 0, .slice none 0 0, .slice none 0 0, .slice none 0 0], .int .i64 2]) (by simp [results, Tryz.results41, go_sem, k0, k1, k2, k3]) rfl ⟨rfl, HB⟩
theorem pchk_eq (N : Int) (xs : List Nat) (su sb : List Int) (hk : chk N xs = true) : ((decide (N = N) && decide (xs = xs)) && (decide (su = supL N xs) && decide (sb = subL N xs))) = pchk N xs su sb := by
 unfold pchk
 rw [hk]
 simp
theorem rcheckp_c (N : Int) (ao : Option Addr) (xs : List Nat) (cap : Nat) (so : Option Addr) (su : List Int) (sc : Nat) (tO : Option Addr) (sb : List Int) (tc : Nat) (w : World)
  (hx : Wd w ao xs) (hf : Fit xs) (hcap : xs.length ≤ cap) (s1 : Nd w so su) (sl : su.length ≤ 1048576) (t1 : Nd w tO sb) (tl : sb.length ≤ 1048576) :
  Calls Tryz.prog 100 #[.agg #[.int .i64 N, .slice ao xs.length cap, .slice so su.length sc, .slice tO sb.length tc]] w fun e w' => e = .returned (.bool (pchk N xs su sb)) ∧ Below w.heap.size w w' := by
 obtain ⟨W, hW⟩ : ∃ W, W = w.alloc (.cells #[.int .i64 N, .slice ao xs.length cap, .slice so su.length sc, .slice tO sb.length tc] 29) := ⟨_, rfl⟩
 have bW := yb1 hW
 have B1 := yc1 hW
 cases hk : chk N xs with
 | false =>
  have R : Hid (pchk N xs su sb = false) := by show pchk N xs su sb = false; unfold pchk; rw [hk]; rfl
  have C1 : Hid (∀ w0, w0 = W → Calls Tryz.prog 41 #[.agg #[.int .i64 N, .slice ao xs.length cap]] w0 fun e w' => e = .returned (.tuple #[.agg #[.int .i64 0, .slice none 0 0, .slice none 0 0, .slice none 0 0], .int .i64 2]) ∧ Below w0.heap.size w0 w') := fun w0 h => by subst h; exact rbuild_bad N ao xs cap w0 (hx.keep bW) hf hk
  go_enter Tryz.func100, Tryz.ntmps100
  go_wp2_with fail
  rw [← hW]
  refine (C1.out _ rfl).mono ?_
  rintro e w1 ⟨rfl, hb⟩
  have bw1 := bW.trans (hb.mono bW.size)
  go_wp2
  go_ret
  rw [R.out]
  exact ⟨rfl, bw1.alloc (Nat.le_trans (Nat.le_refl _) bw1.size) _⟩
 | true =>
  obtain ⟨h0, h1, h2, _⟩ := chk_out N xs hk
  have hlx : xs.length ≤ 1048576 := by omega
  have C1 : Hid (∀ w0, w0 = W → Calls Tryz.prog 41 #[.agg #[.int .i64 N, .slice ao xs.length cap]] w0 fun e w' => ∃ po pc qo qc, e = .returned (.tuple #[.agg #[.int .i64 N, .slice ao xs.length cap, .slice po (supL N xs).length pc, .slice qo (subL N xs).length qc], .int .i64 0]) ∧ Nd w' po (supL N xs) ∧ (supL N xs).length ≤ pc ∧ Nd w' qo (subL N xs) ∧ (subL N xs).length ≤ qc ∧ Below w0.heap.size w0 w' ∧ Fr w0.heap.size po ∧ Fr w0.heap.size qo) := fun w0 h => by subst h; exact rbuild_ok N ao xs cap w0 (hx.keep bW) hf hk
  clear h2
  go_enter Tryz.func100, Tryz.ntmps100
  go_wp2_with fail
  rw [← hW]
  refine (C1.out _ rfl).mono ?_
  rintro e w1 ⟨po, pc, qo, qc, rfl, n1, n2, n3, n4, hb, -, -⟩
  have bw1 := bW.trans (hb.mono bW.size)
  replace B1 := B1.kept hb
  have hlt := B1.lt
  obtain ⟨V, hV⟩ : ∃ V, V = w1.alloc (.cells #[.int .i64 N, .slice ao xs.length cap, .slice po (supL N xs).length pc, .slice qo (subL N xs).length qc] 29) := ⟨_, rfl⟩
  have bV : Below w1.heap.size w1 V := by rw [hV]; exact below_alloc w1 _
  have bwV := bw1.trans (bV.mono bw1.size)
  have C2 : Hid (∀ w0, w0 = V → Calls Tryz.prog 44 #[.agg #[.int .i64 N, .slice ao xs.length cap, .slice so su.length sc, .slice tO sb.length tc], .agg #[.int .i64 N, .slice ao xs.length cap, .slice po (supL N xs).length pc, .slice qo (subL N xs).length qc]] w0 fun e w' => e = .returned (.bool (pchk N xs su sb)) ∧ Below w0.heap.size w0 w') := fun w0 h => by
   subst h
   have := rsame_c N ao xs cap so su sc tO sb tc N ao xs cap po (supL N xs) pc qo (subL N xs) qc w0 (hx.keep bwV) (hx.keep bwV) hlx (s1.keep bwV) (n1.keep bV) sl (t1.keep bwV) (n3.keep bV) tl
   rw [pchk_eq N xs su sb hk] at this
   exact this
  have r0 := B1.cell 0 rfl
  have r1 := B1.cell 1 rfl
  have r2 := B1.cell 2 rfl
  have r3 := B1.cell 3 rfl
  clear hb C1 hW bW W
  go_wp2_with fail
  rw [← hV]
  refine (C2.out _ rfl).mono ?_
  rintro e w2 ⟨rfl, hb2⟩
  have bw2 := bwV.trans (hb2.mono bwV.size)
  go_wp2
  go_ret
  exact ⟨rfl, bw2⟩
def piA (N : Int) (xs : List Nat) (su sb : List Int) (ao : Option Addr) : Option Addr := if pchk N xs su sb then ao else none
def piC (N : Int) (xs : List Nat) (su sb : List Int) (cap : Nat) : Nat := if pchk N xs su sb then cap else 0
theorem pi_wd {w : World} {ao : Option Addr} {xs : List Nat} (N : Int) (su sb : List Int) (hx : Wd w ao xs) : Wd w (piA N xs su sb ao) (piX N xs su sb) := by
 unfold piA piX
 cases pchk N xs su sb with
 | false => exact wd0' _ _
 | true => exact hx
theorem pi_cap (N : Int) (xs : List Nat) (su sb : List Int) (cap : Nat) (h : xs.length ≤ cap) : (piX N xs su sb).length ≤ piC N xs su sb cap := by
 unfold piC piX
 cases pchk N xs su sb with
 | false => exact Nat.le_refl _
 | true => exact h
theorem pi_fit (N : Int) (xs : List Nat) (su sb : List Int) (h : Fit xs) : Fit (piX N xs su sb) := by
 unfold piX
 cases pchk N xs su sb with
 | false => intro i; unfold gt; simp
 | true => exact h
theorem rwhole_c (N : Int) (ao : Option Addr) (xs : List Nat) (cap : Nat) (so : Option Addr) (su : List Int) (sc : Nat) (tO : Option Addr) (sb : List Int) (tc : Nat) (w : World)
  (hx : Wd w ao xs) (hf : Fit xs) (hcap : xs.length ≤ cap) (s1 : Nd w so su) (sl : su.length ≤ 1048576) (t1 : Nd w tO sb) (tl : sb.length ≤ 1048576) :
  Calls Tryz.prog 104 #[.agg #[.int .i64 N, .slice ao xs.length cap, .slice so su.length sc, .slice tO sb.length tc]] w fun e w' => e = .returned (.tuple #[.agg #[.int .i64 (piN N xs su sb), .slice (piA N xs su sb ao) (piX N xs su sb).length (piC N xs su sb cap)], .bool (pchk N xs su sb)]) ∧ Below w.heap.size w w' := by
 obtain ⟨W, hW⟩ : ∃ W, W = (w.alloc (.cells #[.int .i64 N, .slice ao xs.length cap, .slice so su.length sc, .slice tO sb.length tc] 29)).alloc (.cells #[.int .i64 0, .slice none 0 0] 24) := ⟨_, rfl⟩
 have bW := yb2 hW
 have B1 := yc3 hW
 have B2 := yc2 hW
 have C1 : Hid (∀ w0, w0 = W → Calls Tryz.prog 100 #[.agg #[.int .i64 N, .slice ao xs.length cap, .slice so su.length sc, .slice tO sb.length tc]] w0 fun e w' => e = .returned (.bool (pchk N xs su sb)) ∧ Below w0.heap.size w0 w') := fun w0 h => by
  subst h
  exact rcheckp_c N ao xs cap so su sc tO sb tc w0 (hx.keep bW) hf hcap (s1.keep bW) sl (t1.keep bW) tl
 unfold piN piX piA piC
 cases hk : pchk N xs su sb with
 | false =>
  rw [hk] at C1
  go_enter Tryz.func104, Tryz.ntmps104
  go_wp2_with fail
  rw [← hW]
  refine (C1.out _ rfl).mono ?_
  rintro e w1 ⟨rfl, hb⟩
  have bw1 := bW.trans (hb.mono bW.size)
  replace B2 := B2.kept hb
  have y0 := B2.cell 0 rfl
  have y1 := B2.cell 1 rfl
  have f0 := B2.frozen 0
  have f1 := B2.frozen 1
  have hC := (B2.set 0 (.int .i64 0)).set 1 (.slice none 0 0)
  have HB := below_set (below_set bw1 (w.heap.size + 1) 0 (.int .i64 0) (Nat.le_succ _)) (w.heap.size + 1) 1 (.slice none 0 0) (Nat.le_succ _)
  have k0 := hC.cell 0 rfl
  have k1 := hC.cell 1 rfl
  go_wp2
  exact bodyPost_ret (v := .tuple #[.agg #[.int .i64 0, .slice none 0 0], .bool false]) (by simp [results, Tryz.results104, go_sem, k0, k1]) rfl ⟨rfl, HB⟩
 | true =>
  rw [hk] at C1
  go_enter Tryz.func104, Tryz.ntmps104
  go_wp2_with fail
  rw [← hW]
  refine (C1.out _ rfl).mono ?_
  rintro e w1 ⟨rfl, hb⟩
  have bw1 := bW.trans (hb.mono bW.size)
  replace B2 := B2.kept hb
  replace B1 := B1.kept hb
  have r0 := B1.cell 0 rfl
  have r1 := B1.cell 1 rfl
  have y0 := B2.cell 0 rfl
  have y1 := B2.cell 1 rfl
  have f0 := B2.frozen 0
  have f1 := B2.frozen 1
  have hC := (B2.set 0 (.int .i64 N)).set 1 (.slice ao xs.length cap)
  have HB := below_set (below_set bw1 (w.heap.size + 1) 0 (.int .i64 N) (Nat.le_succ _)) (w.heap.size + 1) 1 (.slice ao xs.length cap) (Nat.le_succ _)
  have k0 := hC.cell 0 rfl
  have k1 := hC.cell 1 rfl
  go_wp2
  exact bodyPost_ret (v := .tuple #[.agg #[.int .i64 N, .slice ao xs.length cap], .bool true]) (by simp [results, Tryz.results104, go_sem, k0, k1]) rfl ⟨rfl, HB⟩
theorem rsize_c (N : Int) (ao : Option Addr) (xs : List Nat) (cap : Nat) (so : Option Addr) (su : List Int) (sc : Nat) (tO : Option Addr) (sb : List Int) (tc : Nat) (w : World)
  (hx : Wd w ao xs) (hf : Fit xs) (hcap : xs.length ≤ cap) (s1 : Nd w so su) (sl : su.length ≤ 1048576) (t1 : Nd w tO sb) (tl : sb.length ≤ 1048576) :
  Calls Tryz.prog 50 #[.agg #[.int .i64 N, .slice ao xs.length cap, .slice so su.length sc, .slice tO sb.length tc]] w fun e w' => e = .returned (.int .i64 (pzN N xs su sb)) ∧ Below w.heap.size w w' := by
 obtain ⟨W, hW⟩ : ∃ W, W = w.alloc (.cells #[.int .i64 N, .slice ao xs.length cap, .slice so su.length sc, .slice tO sb.length tc] 29) := ⟨_, rfl⟩
 have bW := yb1 hW
 have B1 := yc1 hW
 have C1 : Hid (∀ w0, w0 = W → Calls Tryz.prog 100 #[.agg #[.int .i64 N, .slice ao xs.length cap, .slice so su.length sc, .slice tO sb.length tc]] w0 fun e w' => e = .returned (.bool (pchk N xs su sb)) ∧ Below w0.heap.size w0 w') := fun w0 h => by
  subst h
  exact rcheckp_c N ao xs cap so su sc tO sb tc w0 (hx.keep bW) hf hcap (s1.keep bW) sl (t1.keep bW) tl
 unfold pzN
 cases hk : pchk N xs su sb with
 | false =>
  rw [hk] at C1
  go_enter Tryz.func50, Tryz.ntmps50
  go_wp2_with fail
  rw [← hW]
  refine (C1.out _ rfl).mono ?_
  rintro e w1 ⟨rfl, hb⟩
  have bw1 := bW.trans (hb.mono bW.size)
  go_wp2
  go_ret
  exact ⟨rfl, bw1⟩
 | true =>
  obtain ⟨h1, -, -⟩ := pchk_out N xs su sb hk
  obtain ⟨h2, h3, -, -⟩ := chk_out N xs h1
  rw [hk] at C1
  go_enter Tryz.func50, Tryz.ntmps50
  go_wp2_with fail
  rw [← hW]
  refine (C1.out _ rfl).mono ?_
  rintro e w1 ⟨rfl, hb⟩
  have bw1 := bW.trans (hb.mono bW.size)
  replace B1 := B1.kept hb
  have r0 := B1.cell 0 rfl
  have r1 := B1.cell 1 rfl
  have r2 := B1.cell 2 rfl
  have r3 := B1.cell 3 rfl
  go_wp2
  go_ret
  exact ⟨rfl, bw1⟩
structure PlIn (w : World) (N : Int) (ao : Option Addr) (xs : List Nat) (cap : Nat) (so : Option Addr) (su : List Int) (sc : Nat) (tO : Option Addr) (sb : List Int) (tc : Nat) : Prop where
 n : -9223372036854775808 ≤ N ∧ N ≤ 9223372036854775807
 x : Wd w ao xs
 f : Fit xs
 c : xs.length ≤ cap
 l : xs.length ≤ 1048576
 s : Nd w so su
 sf : FitI su
 sc : su.length ≤ sc
 sl : su.length ≤ 1048576
 t : Nd w tO sb
 tf : FitI sb
 tc : sb.length ≤ tc
 tl : sb.length ≤ 1048576
theorem PlIn.keep {w w' : World} {N : Int} {ao : Option Addr} {xs : List Nat} {cap : Nat} {so : Option Addr} {su : List Int} {sc : Nat} {tO : Option Addr} {sb : List Int} {tc : Nat} (h : PlIn w N ao xs cap so su sc tO sb tc) (hb : Below w.heap.size w w') : PlIn w' N ao xs cap so su sc tO sb tc :=
 ⟨h.n, h.x.keep hb, h.f, h.c, h.l, h.s.keep hb, h.sf, h.sc, h.sl, h.t.keep hb, h.tf, h.tc, h.tl⟩
structure PlArg (w : World) (N : Int) (ao : Option Addr) (xs : List Nat) (cap : Nat) (so : Option Addr) (su : List Int) (sc : Nat) (tO : Option Addr) (sb : List Int) (tc : Nat) : Prop where
 n : -9223372036854775808 ≤ N ∧ N ≤ 9223372036854775807
 x : Wd w ao xs
 f : Fit xs
 c : xs.length ≤ cap
 s : Nd w so su
 sf : FitI su
 sc : su.length ≤ sc
 t : Nd w tO sb
 tf : FitI sb
 tc : sb.length ≤ tc
theorem PlArg.plin {w : World} {N : Int} {ao : Option Addr} {xs : List Nat} {cap : Nat} {so : Option Addr} {su : List Int} {sc : Nat} {tO : Option Addr} {sb : List Int} {tc : Nat} (h : PlArg w N ao xs cap so su sc tO sb tc) (h1 : xs.length ≤ 1048576) (h2 : su.length ≤ 1048576) (h3 : sb.length ≤ 1048576) : PlIn w N ao xs cap so su sc tO sb tc :=
 ⟨h.n, h.x, h.f, h.c, h1, h.s, h.sf, h.sc, h2, h.t, h.tf, h.tc, h3⟩
theorem fit_sup (N : Int) (xs : List Nat) : FitI (supL N xs) := by
 intro i
 by_cases c : i < (supL N xs).length
 ·unfold supL at c ⊢
  rw [length_supP] at c
  rw [gi_supP _ _ _ _ c]
  have := supI_bound N xs i
  omega
 ·unfold gi
  rw [List.getD_eq_getElem?_getD, List.getElem?_eq_none (by omega)]
  decide
theorem fit_sub (N : Int) (xs : List Nat) : FitI (subL N xs) := by
 intro i
 by_cases c : i < (subL N xs).length
 ·unfold subL at c ⊢
  rw [length_subP] at c
  rw [gi_subP _ _ _ _ c]
  have := subI_bound N xs i
  omega
 ·unfold gi
  rw [List.getD_eq_getElem?_getD, List.getElem?_eq_none (by omega)]
  decide
theorem PlOut.plin {base : Nat} {w : World} {bo : Option Addr} {bc : Nat} {so : Option Addr} {sc : Nat} {tO : Option Addr} {tc : Nat} (N : Int) (xs : List Nat) (hn : -9223372036854775808 ≤ N ∧ N ≤ 9223372036854775807) (hf : Fit xs) (hl : xs.length ≤ 1048576) (h : PlOut base w bo (pbX N xs) bc so (pbS N xs) sc tO (pbT N xs) tc) :
  PlIn w (pbN N xs) bo (pbX N xs) bc so (pbS N xs) sc tO (pbT N xs) tc := by
 have e1 : -9223372036854775808 ≤ pbN N xs ∧ pbN N xs ≤ 9223372036854775807 := by unfold pbN; split <;> omega
 have e2 : Fit (pbX N xs) := by
  unfold pbX
  split
  ·exact hf
  ·intro i; unfold gt; simp
 have e3 : (pbX N xs).length ≤ 1048576 := by
  unfold pbX
  split
  ·exact hl
  ·simp
 have e4 : FitI (pbS N xs) := by
  unfold pbS
  split
  ·exact fit_sup N xs
  ·intro i; unfold gi; simp
 have e5 : (pbS N xs).length ≤ 1048576 := by
  unfold pbS
  split
  ·rename_i hk
   obtain ⟨h0, h1, _, _⟩ := chk_out N xs hk
   rw [length_supL]; omega
  ·simp
 have e6 : FitI (pbT N xs) := by
  unfold pbT
  split
  ·exact fit_sub N xs
  ·intro i; unfold gi; simp
 have e7 : (pbT N xs).length ≤ 1048576 := by
  unfold pbT
  split
  ·rw [length_subL]; omega
  ·simp
 exact ⟨e1, h.x, e2, h.xc, e3, h.s, e4, h.sc, e5, h.t, e6, h.tc, e7⟩
end Go.Proofs.YtpeecabfcgijhaaGreatDoor
namespace Go.Proofs.YtpeecabfcgijhaaGreatDoor
open Go.RowKit Go.Extern.Stop Go.Stop Go.Extern
def ET (w : World) : Prop := w.cell? ⟨0, 0, none⟩ = some (.iface 223 (.agg #[.pointer (some ⟨1, 187, none⟩)]))
theorem ET.lt {w : World} (h : ET w) : 0 < w.heap.size := by
 rcases Nat.eq_zero_or_pos w.heap.size with h0 | h1
 ·simp [ET, World.cell?, h0] at h
 ·exact h1
theorem ET.keep {w w' : World} (h : ET w) (hb : Below w.heap.size w w') : ET w' := (hb.cell (p := ⟨0, 0, none⟩) h.lt).trans h
end Go.Proofs.YtpeecabfcgijhaaGreatDoor
namespace Go.Proofs.YtpeecabfcgijhaaGreatDoor
open Num
namespace Bit
def cp (xs : List Nat) (n : Nat) : List Nat := xs.take n ++ List.replicate (n - xs.length) 0
def putL (ys : List Nat) (p x : Nat) : List Nat :=
 let a := if x * 2 ^ (p % 64) % 18446744073709551616 = 0 then ys else ys.set (p / 64) (gt ys (p / 64) ||| x * 2 ^ (p % 64) % 18446744073709551616)
 if x / 2 ^ (64 - p % 64) = 0 then a else a.set (p / 64 + 1) (gt a (p / 64 + 1) ||| x / 2 ^ (64 - p % 64))
theorem length_putL (ys : List Nat) (p x : Nat) : (putL ys p x).length = ys.length := by
 unfold putL
 simp only
 split <;> split <;> simp
def Room (ys : List Nat) (p x : Nat) : Prop := (x * 2 ^ (p % 64) % 18446744073709551616 ≠ 0 → p / 64 < ys.length) ∧ (x / 2 ^ (64 - p % 64) ≠ 0 → p / 64 + 1 < ys.length)
theorem gt_putL (ys : List Nat) (p x : Nat) (h : Room ys p x) (j : Nat) :
  gt (putL ys p x) j = gt ys j ||| (if j = p / 64 then x * 2 ^ (p % 64) % 18446744073709551616 else if j = p / 64 + 1 then x / 2 ^ (64 - p % 64) else 0) := by
 obtain ⟨h1, h2⟩ := h
 unfold putL
 simp only
 by_cases c1 : x * 2 ^ (p % 64) % 18446744073709551616 = 0
 ·rw [if_pos c1]
  by_cases c2 : x / 2 ^ (64 - p % 64) = 0
  ·rw [if_pos c2, c1, c2]; split <;> (try split) <;> simp
  ·rw [if_neg c2, gt_set _ _ _ _ (h2 c2), c1]
   by_cases e : j = p / 64
   ·rw [if_pos e, if_neg (by omega)]; simp
   ·rw [if_neg e]
    by_cases e2 : j = p / 64 + 1
    ·rw [if_pos e2, if_pos e2.symm, e2]
    ·rw [if_neg e2, if_neg (fun q => e2 q.symm)]; simp
 ·rw [if_neg c1]
  have hl := h1 c1
  by_cases c2 : x / 2 ^ (64 - p % 64) = 0
  ·rw [if_pos c2, gt_set _ _ _ _ hl, c2]
   by_cases e : j = p / 64
   ·rw [if_pos e, if_pos e.symm, e]
   ·rw [if_neg e, if_neg (fun q => e q.symm)]; split <;> simp
  ·rw [if_neg c2, gt_set _ _ _ _ (by rw [List.length_set]; exact h2 c2), gt_set _ _ _ _ hl, gt_set _ _ _ _ hl]
   by_cases e : j = p / 64
   ·rw [if_pos e, if_neg (by omega), if_pos e.symm, e]
   ·rw [if_neg e, if_neg (show ¬ p / 64 = j from fun q => e q.symm), if_neg (show ¬ p / 64 = p / 64 + 1 by omega)]
    by_cases e2 : j = p / 64 + 1
    ·rw [if_pos e2, if_pos e2.symm, e2]
    ·rw [if_neg e2, if_neg (fun q => e2 q.symm)]; simp
theorem fit_putL (ys : List Nat) (hf : Fit ys) (p x : Nat) (hx : x < 18446744073709551616) (h : Room ys p x) : Fit (putL ys p x) := by
 intro j
 rw [gt_putL ys p x h j]
 refine or_lt _ _ (hf j) ?_
 split
 ·exact Nat.mod_lt _ (by decide)
 ·split
  ·exact Nat.lt_of_le_of_lt (Nat.div_le_self _ _) hx
  ·decide
theorem bitAt_putL (ys : List Nat) (p x : Nat) (hx : x < 18446744073709551616) (h : Room ys p x) (i : Nat) : bitAt (putL ys p x) i = (bitAt ys i || (decide (p ≤ i) && x.testBit (i - p))) := by
 unfold bitAt
 rw [gt_putL ys p x h, Nat.testBit_or]
 congr 1
 have hm : i % 64 < 64 := Nat.mod_lt _ (by decide)
 by_cases e : i / 64 = p / 64
 ·rw [if_pos e, test_shl _ _ _ hm]
  by_cases c : p ≤ i
  ·rw [show decide (p % 64 ≤ i % 64) = true by simp; omega, show decide (p ≤ i) = true by simpa using c, show i % 64 - p % 64 = i - p by omega]
  ·rw [show decide (p % 64 ≤ i % 64) = false by simp; omega, show decide (p ≤ i) = false by simpa using c]; rfl
 ·rw [if_neg e]
  by_cases e2 : i / 64 = p / 64 + 1
  ·rw [if_pos e2, test_shr, show decide (p ≤ i) = true by simp; omega, show 64 - p % 64 + i % 64 = i - p by omega]; rfl
  ·rw [if_neg e2, Nat.zero_testBit]
   by_cases c : p ≤ i
   ·rw [test_big x _ hx (by omega)]; simp
   ·simp [c]
theorem room_of (ys : List Nat) (p x m : Nat) (hx : x < 2 ^ m) (hm : m ≤ 64) (hl : p + m ≤ 64 * ys.length) : Room ys p x := by
 have hp : 0 < 2 ^ (64 - p % 64) := Nat.pow_pos (by decide)
 constructor
 ·intro h
  by_cases c : m = 0
  ·subst c
   have : x = 0 := by simpa using hx
   subst this; simp at h
  ·omega
 ·intro h
  by_cases c : m ≤ 64 - p % 64
  ·have : x < 2 ^ (64 - p % 64) := Nat.lt_of_lt_of_le hx (Nat.pow_le_pow_right (by decide) c)
   exact absurd (Nat.div_eq_of_lt this) h
  ·omega
end Bit
end Go.Proofs.YtpeecabfcgijhaaGreatDoor
