/-
  The contract of the document's Build.
-/
import Derived.Test.YtcaalcjcpddhaaaGreatS30
import Derived.Test.YtcaalcjcpddhaaaGreatS31
import Derived.Deep.DeepCutAuto
import Derived.Deep.CutBlock
set_option linter.unusedVariables false
set_option linter.unusedSimpArgs false
set_option maxRecDepth 100000
namespace Go.Proofs.YtcaalcjcpddhaaaGreat
open Go.RowKit Num Bit
def iv (l : List Int) : List Value := l.map fun n : Int => Value.int .i64 n
theorem length_iv (l : List Int) : (iv l).length = l.length := by simp [iv]
theorem iv_snoc (l : List Int) (v : Int) : iv l ++ [.int .i64 v] = iv (l ++ [v]) := by simp [iv]
theorem iv_get (l : List Int) (i : Nat) (h : i < l.length) : (iv l)[i]? = some (.int .i64 (gi l i)) := by
 unfold iv
 rw [List.getElem?_map, gi_get l i h]; rfl
theorem supP_succ (N : Int) (xs : List Nat) (q : Nat) : supP N xs (q + 1) = supP N xs q ++ [supI N xs q] := by
 unfold supP; rw [List.range_succ, List.map_append]; rfl
theorem subP_succ (N : Int) (xs : List Nat) (q : Nat) : subP N xs (q + 1) = subP N xs q ++ [subI N xs q] := by
 unfold subP; rw [List.range_succ, List.map_append]; rfl
theorem nd_own {w : World} {base n c : Nat} {ao : Option Addr} {l : List Int} (h : w.ownsRow base 3 1 (.slice ao n c) n (iv l)) : Nd w ao l := by
 intro h0
 have hlen : (iv l).length = n * 1 := h.1
 rw [length_iv] at hlen
 have hk := fun k hk => h.lt k hk
 have hc := fun g hg => h.cells (g := g) hg
 obtain ⟨_, ⟨e, e2⟩ | ⟨g, cap, cur, e, _⟩⟩ := h
 ·omega
 ·simp only [Value.slice.injEq] at e
  obtain ⟨rfl, _, rfl⟩ := e
  refine ⟨g, 0, rfl, (hk g rfl).2, fun i hi => ?_⟩
  rw [← hc g rfl i _ (iv_get l i hi)]
  unfold Addr.add
  split
  ·subst_vars; rfl
  ·simp
theorem owns_set {w : World} {base e n : Nat} {v u : Value} {vs : List Value} {a : Addr} (h : w.ownsRow base e 1 v n vs) (ha : a.block < base) : (w.setCell a u).ownsRow base e 1 v n vs := by
 obtain ⟨h1, h2 | ⟨g, cap, cur, e1, e2, hh, r⟩⟩ := h
 ·exact ⟨h1, .inl h2⟩
 ·exact ⟨h1, .inr ⟨g, cap, cur, e1, e2, (Below.heap_setCell w a u g (by omega)).trans hh, r⟩⟩
def Sup (w : World) (bs : Nat) (l : List Int) : Prop := ∀ i, i < l.length → w.cell? ⟨bs, i, none⟩ = some (.int .i64 (gi l i))
theorem Sup.keep {w w' : World} {bs base : Nat} {l : List Int} (h : Sup w bs l) (hb : Below base w w') (hlt : bs < base) : Sup w' bs l := fun i hi => (hb.cell (p := ⟨bs, i, none⟩) hlt).trans (h i hi)
theorem Sup.other {w : World} {bs : Nat} {l : List Int} (h : Sup w bs l) {a : Addr} (ha : bs ≠ a.block) (v : Value) : Sup (w.setCell a v) bs l := fun i hi => (World.cell?_of_block (w := w) (Below.heap_setCell w a v bs ha)).trans (h i hi)
theorem sup_of {w : World} {base n c : Nat} {ao : Option Addr} {l : List Int} (h : w.ownsRow base 3 1 (.slice ao n c) n (iv l)) (hn : 0 < n) : ∃ bs, ao = some ⟨bs, 0, none⟩ ∧ base ≤ bs ∧ Sup w bs l := by
 have hlen : (iv l).length = n * 1 := h.1
 rw [length_iv] at hlen
 have hc := fun g hg => h.cells (g := g) hg
 obtain ⟨_, ⟨e, e2⟩ | ⟨g, cap, cur, e, hg, _⟩⟩ := h
 ·omega
 ·simp only [Value.slice.injEq] at e
  obtain ⟨rfl, _, rfl⟩ := e
  refine ⟨g, rfl, hg, fun i hi => ?_⟩
  rw [← hc g rfl i _ (iv_get l i hi)]
  unfold Addr.add
  split
  ·subst_vars; rfl
  ·simp
theorem below_set {base : Nat} {w w' : World} (h : Below base w w') (b i : Nat) (v : Value) (hb : base ≤ b) : Below base w (w'.setCell ⟨b, i, none⟩ v) := h.setCell hb _
theorem sup_nd {w : World} {bs : Nat} {l : List Int} (h : Sup w bs l) (hlt : bs < w.heap.size) : Nd w (some ⟨bs, 0, none⟩) l := fun _ => ⟨bs, 0, rfl, hlt, fun i hi => by rw [Nat.zero_add]; exact h i hi⟩
theorem Hid.mk' {p : Prop} (h : p) : Hid p := h
structure BI (w wr : World) (m n cap : Nat) (ao : Option Addr) (g : Nat) (sv tv : Value) : Prop where
 b1 : Cel wr w.heap.size [.int .i64 m, .slice ao n cap] 24
 b2 : Cel wr (w.heap.size + 1) [.int .i64 0, .slice none 0 0, .slice none 0 0, .slice none 0 0] 28
 bx : Cel wr g [.int .i64 m, .slice ao n cap, sv, tv] 28
 hg : w.heap.size + 1 < g
 hw : Below w.heap.size w wr
theorem BI.keep {w wr w' : World} {m n cap : Nat} {ao : Option Addr} {g : Nat} {sv tv : Value} (h : BI w wr m n cap ao g sv tv) {base : Nat} (hb : Below base wr w') (hg : g < base) : BI w w' m n cap ao g sv tv :=
 have := h.hg
 ⟨h.b1.keep hb (by omega), h.b2.keep hb (by omega), h.bx.keep hb hg, h.hg, h.hw.trans (hb.mono (by omega))⟩
theorem BI.sup {w wr : World} {m n cap : Nat} {ao : Option Addr} {g : Nat} {sv tv : Value} (h : BI w wr m n cap ao g sv tv) (v : Value) : BI w (wr.setCell ⟨g, 2, none⟩ v) m n cap ao g v tv :=
 have := h.hg
 ⟨h.b1.other (by show w.heap.size ≠ g; omega) v, h.b2.other (by show w.heap.size + 1 ≠ g; omega) v, h.bx.set 2 v, h.hg, h.hw.setCell (by show w.heap.size ≤ g; omega) _⟩
theorem BI.sub {w wr : World} {m n cap : Nat} {ao : Option Addr} {g : Nat} {sv tv : Value} (h : BI w wr m n cap ao g sv tv) (v : Value) : BI w (wr.setCell ⟨g, 3, none⟩ v) m n cap ao g sv v :=
 have := h.hg
 ⟨h.b1.other (by show w.heap.size ≠ g; omega) v, h.b2.other (by show w.heap.size + 1 ≠ g; omega) v, h.bx.set 3 v, h.hg, h.hw.setCell (by show w.heap.size ≤ g; omega) _⟩
set_option maxHeartbeats 4000000 in
theorem rbuild_ok (N : Int) (ao : Option Addr) (xs : List Nat) (cap : Nat) (w : World) (hx : Wd w ao xs) (hf : Fit xs) (hk : chk N xs = true) :
  Calls Tryz.prog 12 #[.agg #[.int .i64 N, .slice ao xs.length cap]] w fun e w' => ∃ so sc tO tc, e = .returned (.tuple #[.agg #[.int .i64 N, .slice ao xs.length cap, .slice so (supL N xs).length sc, .slice tO (subL N xs).length tc], .int .i64 0]) ∧ Nd w' so (supL N xs) ∧ (supL N xs).length ≤ sc ∧ Nd w' tO (subL N xs) ∧ (subL N xs).length ≤ tc ∧ Below w.heap.size w w' ∧ Fr w.heap.size so ∧ Fr w.heap.size tO := by
 obtain ⟨h0, h1, h2, _⟩ := chk_out N xs hk
 obtain ⟨m, rfl⟩ := Int.eq_ofNat_of_zero_le h0
 obtain ⟨i0, hi, hz0, hz1, hz2⟩ := info_parts Tryz.info3
 obtain ⟨W, hW⟩ : ∃ W, W = (w.alloc (.cells #[.int .i64 m, .slice ao xs.length cap] 24)).alloc (.cells #[.int .i64 0, .slice none 0 0, .slice none 0 0, .slice none 0 0] 28) := ⟨_, rfl⟩
 have bW : Below w.heap.size w W := by rw [hW]; exact (below_alloc w _).alloc (by simp) _
 have B1 : Cel W w.heap.size [.int .i64 m, .slice ao xs.length cap] 24 := by rw [hW]; exact (Cel.new w _ _).alloc _
 have B2 : Cel W (w.heap.size + 1) [.int .i64 0, .slice none 0 0, .slice none 0 0, .slice none 0 0] 28 := by rw [hW]; exact Cel.new2 w _ _ _
 have C1 : Hid (∀ w0, w0 = W → Calls Tryz.prog 21 #[.agg #[.int .i64 m, .slice ao xs.length cap]] w0 fun e w' => e = .returned (.bool true) ∧ Below w0.heap.size w0 w') := fun w0 h => by
  subst h
  have := refcheck_c m ao xs cap w0 (hx.keep bW) hf
  rw [hk] at this
  exact this
 go_enter Tryz.func12, Tryz.ntmps12
 go_wp2_with fail
 rw [← hW]
 refine (C1.out _ rfl).mono ?_
 rintro e w1 ⟨rfl, hb⟩
 have bw1 := bW.trans (hb.mono bW.size)
 replace B1 := B1.kept hb
 replace B2 := B2.kept hb
 have z2 := B2.lt
 clear hb C1 hW bW W
 have r0 := B1.cell 0 rfl
 have r1 := B1.cell 1 rfl
 go_wp2
 go_loopw [5] (fun i wr => ∃ (q : Nat) (so : Option Addr) (sc : Nat), q ≤ m / 512 + 1 ∧ i = .int .i64 q ∧ q ≤ sc ∧ BI w wr m xs.length cap ao w1.heap.size (.slice so q sc) (.slice none 0 0) ∧ wr.ownsRow (w1.heap.size + 1) 3 1 (.slice so q sc) q (iv (supP m xs q))) (fun i _ => m / 512 + 1 - (intOf i).toNat)
 case atStart => exact ⟨0, none, 0, by omega, rfl, Nat.le_refl _, ⟨B1.alloc _, B2.alloc _, Cel.new w1 _ _, z2, bw1.alloc (by omega) _⟩, World.ownsRow_nil _ _ _ _⟩
 case round =>
  obtain ⟨q, so, sc, hq, rfl, hqc, hB, hown⟩ := hrel
  have r0 := hB.b1.cell 0 rfl
  have r1 := hB.b1.cell 1 rfl
  by_cases hlt : q ≤ m / 512
  ·have hlt2 : (q : Int) ≤ (m : Int) / 512 := by omega
   have mu : IntKind.i64.wrap (512 * (q : Int)) = 512 * (q : Int) := by rw [IntKind.wrap_i64]; omega
   go_wp2
   refine region_g [9] (fun w' => BI w w' m xs.length cap ao w1.heap.size (.slice so q sc) (.slice none 0 0)) (by kernel_rfl) ?_
   have hS : BI w wr.drew m xs.length cap ao w1.heap.size (.slice so q sc) (.slice none 0 0) := ⟨hB.b1, hB.b2, hB.bx, hB.hg, hB.hw.drew⟩
   refine AnyG.take 0 (v := ?vv1) rfl (by kernel_rfl) (by kernel_rfl) (by kernel_rfl) (by kernel_rfl) (fun _ _ _ h => h) hS ?hy1 (by rfl) ?rest1
   case hy1 =>
    intro w0 h0
    go_simp
    try with_reducible rfl
   simp only [Act.put, yq3, yq4, yq5]
   refine AnyG.take 1 (v := ?vv2) rfl (by kernel_rfl) (by kernel_rfl) (by kernel_rfl) (by kernel_rfl) (fun _ _ _ h => h) hS ?hy2 (by rfl) ?rest2
   case hy2 =>
    intro w0 h0
    have c2 := h0.bx.cell 2 rfl
    go_simp
    try with_reducible rfl
   simp only [Act.put, yq3, yq4, yq5]
   refine AnyG.take 2 (v := ?vv3) rfl (by kernel_rfl) (by kernel_rfl) (by kernel_rfl) (by kernel_rfl) (fun _ _ _ h => h) hS ?hy3 (by rfl) ?rest3
   case hy3 =>
    intro w0 h0
    have c0 := h0.b1.cell 0 rfl
    have c1 := h0.b1.cell 1 rfl
    go_simp
    try with_reducible rfl
   simp only [Act.put, yq3, yq4, yq5]
   refine AnyG.take 3 (v := ?vv4) rfl (by kernel_rfl) (by kernel_rfl) (by kernel_rfl) (by kernel_rfl) (fun _ _ _ h => h) hS ?hy4 (by rfl) ?rest4
   case hy4 =>
    intro w0 h0
    go_simp
    try with_reducible rfl
   simp only [Act.put, yq3, yq4, yq5]
   refine AnyG.take 4 (v := ?vv5) rfl (by kernel_rfl) (by kernel_rfl) (by kernel_rfl) (by kernel_rfl) (fun _ _ _ h => h) hS ?hy5 (by rfl) ?rest5
   case hy5 =>
    intro w0 h0
    go_simp
    try with_reducible rfl
   simp only [Act.put, yq3, yq4, yq5]
   refine AnyG.one 5 (by kernel_rfl) rfl ?_
   intro K hK
   go_simp
   refine (refones_c _ _ _ _ _ _ (hx.keep hS.hw) hf).mono ?_
   rintro e w2 ⟨rfl, hb⟩
   have g2 : w1.heap.size < wr.drew.heap.size := hS.bx.lt
   have hS2 := hS.keep hb g2
   have own2 := Ap.owns_below (w := wr.drew) hown hb
   refine hK.out _ _ (fun _ => hS2) ?_
   clear hK K
   try simp only [Act.put, yq3, yq4, yq5]
   obtain ⟨Z, hZ⟩ : ∃ Z, Hid (Z = supI m xs q) := ⟨_, rfl⟩
   have eZ : onesI m xs (512 * (q : Int)) = Z := hZ.out.symm
   rw [eZ]
   refine AnyG.one 6 (by kernel_rfl) rfl ?_
   intro K hK
   go_simp
   have hS3 : BI w (w2.alloc (.cells #[.int .i64 Z] 3)) m xs.length cap ao w1.heap.size (.slice so q sc) (.slice none 0 0) := hS2.keep (below_alloc w2 _) hS2.bx.lt
   refine hK.out _ _ (fun _ => hS3) ?_
   clear hK K
   try simp only [Act.put, yq3, yq4, yq5]
   refine AnyG.one 7 (by kernel_rfl) rfl ?_
   intro K hK
   refine Ap.step_append_u (by rfl) _ _ _ (by rfl) (w1.heap.size + 1) 3 i0 (.int .i64 0) 8 Tryz.underlying26 hi hz0 hz1 hz2 rfl (.slice so q sc) q (iv (supP m xs q)) (by rfl) (own2.alloc _) (some ⟨w2.heap.size, 0, none⟩) 1 1 [.int .i64 Z] (by rfl) rfl ?c1 ?c2 ?c3 ?c4 ?c5 ?c6
   case c1 => exact fun _ => ⟨_, rfl, fun j u hj => by
    match j, hj with
    | 0, hj => simp at hj; subst hj; simp [Addr.add]⟩
   case c2 => intro u hu; simp at hu; subst hu; rfl
   case c3 => unfold maxLen; omega
   case c4 => omega
   case c5 => have := hS3.bx.lt; omega
   intro so2 sc2 w4 own4 hle4 hB4 _ _ _
   have hS4 := hS3.keep hB4 (Nat.lt_succ_self _)
   refine hK.out _ _ (fun _ => hS4) ?_
   clear hK K
   try simp only [Act.put, yq3, yq4, yq5]
   rw [iv_snoc, hZ.out, ← supP_succ] at own4
   refine AnyG.take 8 (v := ?vv6) rfl (by kernel_rfl) (by kernel_rfl) (by kernel_rfl) (by kernel_rfl) (fun _ _ _ h => h) hS4 ?hy6 (by rfl) ?rest6
   case hy6 =>
    intro w0 h0
    go_simp
    try with_reducible rfl
   simp only [Act.put, yq3, yq4, yq5]
   refine AnyG.one 9 (by kernel_rfl) rfl ?_
   intro K hK
   have x2 := hS4.bx.cell 2 rfl
   have y2 := hS4.bx.frozen 2
   go_simp
   refine hK.out _ _ (fun h => absurd (by decide) h) ?_
   clear hK K
   try simp only [Act.put, yq3, yq4, yq5]
   refine AnyG.done (by kernel_rfl) ?_ _
   have hS5 := hS4.sup (.slice so2 (q + 1) sc2)
   have own5 : (w4.setCell ⟨w1.heap.size, 2, none⟩ (.slice so2 (q + 1) sc2)).ownsRow (w1.heap.size + 1) 3 1 (.slice so2 (q + 1) sc2) (q + 1) (iv (supP m xs (q + 1))) := owns_set own4 (Nat.lt_succ_self _)
   have HO : Hid ((w4.setCell ⟨w1.heap.size, 2, none⟩ (.slice so2 (q + 1) sc2)).ownsRow (w1.heap.size + 1) 3 1 (.slice so2 (q + 1) sc2) (q + 1) (iv (supP m xs (q + 1)))) := own5
   clear own5 own4 own2 hown hS hS2 hS3 hS4 hB hB4 hi hz0 hz1 hz2
   go_wp2
   exact ⟨⟨q + 1, so2, sc2, by omega, by go_num, by omega, hS5, HO.out⟩, by simp only [intOf]; omega⟩
  ·obtain rfl : q = m / 512 + 1 := by omega
   have hlt2 : ¬ ((m / 512 + 1 : Nat) : Int) ≤ (m : Int) / 512 := by omega
   obtain ⟨bs, rfl, hbs, hSup⟩ := sup_of hown (by omega)
   rw [show supP m xs (m / 512 + 1) = supL m xs by unfold supL; rw [Int.toNat_natCast]] at hSup
   obtain ⟨M, hM⟩ : ∃ M, Hid (M = m / 512 + 1) := ⟨_, rfl⟩
   rw [← hM.out] at hB hqc hlt2
   have lS : (supL m xs).length = M := by rw [length_supL, Int.toNat_natCast]; exact hM.out.symm
   have hbl : bs < wr.heap.size := (hown.lt bs rfl).2
   have hlx : xs.length ≤ 16384 := by omega
   rw [← hM.out]
   obtain ⟨b, hbd⟩ : ∃ b, b = wr.heap.size := ⟨_, rfl⟩
   rw [← hbd] at hbl
   have hgb : w1.heap.size < b := by rw [hbd]; exact hB.bx.lt
   have hwb : w.heap.size ≤ b := by have := hB.hg; omega
   clear hown hq hlt
   go_wp2
   go_loopw [6] (fun i wz => ∃ (q : Nat) (tO : Option Addr) (tc : Nat), q ≤ xs.length ∧ i = .int .i64 q ∧ q ≤ tc ∧ BI w wz m xs.length cap ao w1.heap.size (.slice (some ⟨bs, 0, none⟩) M sc) (.slice tO q tc) ∧ Sup wz bs (supL m xs) ∧ b ≤ wz.heap.size ∧ wz.ownsRow b 3 1 (.slice tO q tc) q (iv (subP m xs q))) (fun i _ => xs.length - (intOf i).toNat)
   case atStart => exact ⟨0, none, 0, by omega, rfl, Nat.le_refl _, hB, hSup, by omega, World.ownsRow_nil _ _ _ _⟩
   case round =>
    obtain ⟨q, tO, tc, hq, rfl, hqc2, hB2, hSup2, hbw, hown⟩ := hrel
    clear hB hSup
    have r0 := hB2.b1.cell 0 rfl
    have r1 := hB2.b1.cell 1 rfl
    by_cases hlt : q < xs.length
    ·have hlt3 : (q : Int) < (xs.length : Int) := by omega
     have mu : IntKind.i64.wrap (64 * (q : Int)) = 64 * (q : Int) := by rw [IntKind.wrap_i64]; omega
     have q8 : (q : Int) / 8 < (M : Int) := by have := hM.out; omega
     have q8n : q / 8 < (supL m xs).length := by rw [lS]; have := hM.out; omega
     have eS : gi (supL m xs) (q / 8) = supI m xs (q / 8) := by unfold supL; rw [gi_supP _ _ _ _ (by rw [Int.toNat_natCast]; have := hM.out; omega)]
     have e8 : ((q : Int) / 8).toNat = q / 8 := by omega
     have w8 : IntKind.i64.wrap ((q : Int) / 8) = (q : Int) / 8 := by rw [IntKind.wrap_i64]; omega
     have p8 : (0 : Int) ≤ (q : Int) / 8 := by omega
     obtain ⟨Y, hY⟩ : ∃ Y, Hid (Y = supI m xs (q / 8)) := ⟨_, rfl⟩
     obtain ⟨Z, hZ⟩ : ∃ Z, Hid (Z = onesI m xs (64 * (q : Int))) := ⟨_, rfl⟩
     have bY := supI_bound m xs (q / 8)
     have bZ := onesI_bound m xs (64 * (q : Int))
     rw [← hY.out] at bY eS
     rw [← hZ.out] at bZ
     have dif : IntKind.i64.wrap (Z - Y) = Z - Y := by rw [IntKind.wrap_i64]; omega
     have eD : Hid (Z - Y = subI m xs q) := by show Z - Y = subI m xs q; rw [hZ.out, hY.out]; rfl
     go_wp2
     refine region_g [16] (fun w' => BI w w' m xs.length cap ao w1.heap.size (.slice (some ⟨bs, 0, none⟩) M sc) (.slice tO q tc) ∧ Sup w' bs (supL m xs)) (by kernel_rfl) ?_
     have hS : BI w wr.drew m xs.length cap ao w1.heap.size (.slice (some ⟨bs, 0, none⟩) M sc) (.slice tO q tc) ∧ Sup wr.drew bs (supL m xs) := ⟨⟨hB2.b1, hB2.b2, hB2.bx, hB2.hg, hB2.hw.drew⟩, hSup2⟩
     have hbwd : b ≤ wr.drew.heap.size := hbw
     refine AnyG.take 0 (v := ?vv7) rfl (by kernel_rfl) (by kernel_rfl) (by kernel_rfl) (by kernel_rfl) (fun _ _ _ h => h) hS ?hy7 (by rfl) ?rest7
     case hy7 =>
      intro w0 h0
      go_simp
      try with_reducible rfl
     simp only [Act.put, yq3, yq4, yq5]
     refine AnyG.take 1 (v := ?vv8) rfl (by kernel_rfl) (by kernel_rfl) (by kernel_rfl) (by kernel_rfl) (fun _ _ _ h => h) hS ?hy8 (by rfl) ?rest8
     case hy8 =>
      intro w0 h0
      have c3 := h0.1.bx.cell 3 rfl
      go_simp
      try with_reducible rfl
     simp only [Act.put, yq3, yq4, yq5]
     refine AnyG.take 2 (v := ?vv9) rfl (by kernel_rfl) (by kernel_rfl) (by kernel_rfl) (by kernel_rfl) (fun _ _ _ h => h) hS ?hy9 (by rfl) ?rest9
     case hy9 =>
      intro w0 h0
      have c0 := h0.1.b1.cell 0 rfl
      have c1 := h0.1.b1.cell 1 rfl
      go_simp
      try with_reducible rfl
     simp only [Act.put, yq3, yq4, yq5]
     refine AnyG.take 3 (v := ?vv10) rfl (by kernel_rfl) (by kernel_rfl) (by kernel_rfl) (by kernel_rfl) (fun _ _ _ h => h) hS ?hy10 (by rfl) ?rest10
     case hy10 =>
      intro w0 h0
      go_simp
      try with_reducible rfl
     simp only [Act.put, yq3, yq4, yq5]
     refine AnyG.take 4 (v := ?vv11) rfl (by kernel_rfl) (by kernel_rfl) (by kernel_rfl) (by kernel_rfl) (fun _ _ _ h => h) hS ?hy11 (by rfl) ?rest11
     case hy11 =>
      intro w0 h0
      go_simp
      try with_reducible rfl
     simp only [Act.put, yq3, yq4, yq5]
     refine AnyG.take 6 (v := ?vv12) rfl (by kernel_rfl) (by kernel_rfl) (by kernel_rfl) (by kernel_rfl) (fun _ _ _ h => h) hS ?hy12 (by rfl) ?rest12
     case hy12 =>
      intro w0 h0
      go_simp
      try with_reducible rfl
     simp only [Act.put, yq3, yq4, yq5]
     refine AnyG.take 7 (v := ?vv13) rfl (by kernel_rfl) (by kernel_rfl) (by kernel_rfl) (by kernel_rfl) (fun _ _ _ h => h) hS ?hy13 (by rfl) ?rest13
     case hy13 =>
      intro w0 h0
      have c2 := h0.1.bx.cell 2 rfl
      go_simp
      try with_reducible rfl
     simp only [Act.put, yq3, yq4, yq5]
     refine AnyG.take 8 (v := ?vv14) rfl (by kernel_rfl) (by kernel_rfl) (by kernel_rfl) (by kernel_rfl) (fun _ _ _ h => h) hS ?hy14 (by rfl) ?rest14
     case hy14 =>
      intro w0 h0
      go_simp
      try with_reducible rfl
     simp only [Act.put, yq3, yq4, yq5]
     refine AnyG.take 9 (v := ?vv15) rfl (by kernel_rfl) (by kernel_rfl) (by kernel_rfl) (by kernel_rfl) (fun _ _ _ h => h) hS ?hy15 (by rfl) ?rest15
     case hy15 =>
      intro w0 h0
      go_simp
      try with_reducible rfl
     simp only [Act.put, yq3, yq4, yq5]
     refine AnyG.take 10 (v := ?vv16) rfl (by kernel_rfl) (by kernel_rfl) (by kernel_rfl) (by kernel_rfl) (fun _ _ _ h => h) hS ?hy16 (by rfl) ?rest16
     case hy16 =>
      intro w0 h0
      go_simp
      try with_reducible rfl
     simp only [Act.put, yq3, yq4, yq5]
     refine AnyG.take 11 (v := ?vv17) rfl (by kernel_rfl) (by kernel_rfl) (by kernel_rfl) (by kernel_rfl) (fun _ _ _ h => h) hS ?hy17 (by rfl) ?rest17
     case hy17 =>
      intro w0 h0
      have c9 := h0.2 _ q8n
      rw [eS] at c9
      go_simp
      try with_reducible rfl
     simp only [Act.put, yq3, yq4, yq5]
     refine AnyG.one 5 (by kernel_rfl) rfl ?_
     intro K hK
     go_simp
     refine (refones_c _ _ _ _ _ _ (hx.keep hS.1.hw) hf).mono ?_
     rintro e w2 ⟨rfl, hb⟩
     have g2 : w1.heap.size < wr.drew.heap.size := hS.1.bx.lt
     have hS2 := hS.1.keep hb g2
     have hP2 := hS.2.keep hb (Nat.lt_of_lt_of_le hbl hbwd)
     have own2 := Ap.owns_below (w := wr.drew) hown hb
     have hbw2 : b ≤ w2.heap.size := Nat.le_trans hbwd hb.size
     refine hK.out _ _ (fun _ => ⟨hS2, hP2⟩) ?_
     clear hK K
     try simp only [Act.put, yq3, yq4, yq5]
     rw [← hZ.out]
     replace hS := And.intro hS2 hP2
     refine AnyG.take 12 (v := ?vv18) rfl (by kernel_rfl) (by kernel_rfl) (by kernel_rfl) (by kernel_rfl) (fun _ _ _ h => h) hS ?hy18 (by rfl) ?rest18
     case hy18 =>
      intro w0 h0
      go_simp
      try with_reducible rfl
     simp only [Act.put, yq3, yq4, yq5]
     obtain ⟨D, hD⟩ : ∃ D, Hid (D = Z - Y) := ⟨_, rfl⟩
     rw [← hD.out]
     refine AnyG.one 13 (by kernel_rfl) rfl ?_
     intro K hK
     go_simp
     have hS3 : BI w (w2.alloc (.cells #[.int .i64 D] 3)) m xs.length cap ao w1.heap.size (.slice (some ⟨bs, 0, none⟩) M sc) (.slice tO q tc) := hS2.keep (below_alloc w2 _) hS2.bx.lt
     have hP3 : Sup (w2.alloc (.cells #[.int .i64 D] 3)) bs (supL m xs) := hP2.keep (below_alloc w2 _) (Nat.lt_of_lt_of_le hbl hbw2)
     refine hK.out _ _ (fun _ => ⟨hS3, hP3⟩) ?_
     clear hK K
     try simp only [Act.put, yq3, yq4, yq5]
     refine AnyG.one 14 (by kernel_rfl) rfl ?_
     intro K hK
     refine Ap.step_append_u (by rfl) _ _ _ (by rfl) b 3 i0 (.int .i64 0) 8 Tryz.underlying26 hi hz0 hz1 hz2 rfl (.slice tO q tc) q (iv (subP m xs q)) (by rfl) (own2.alloc _) (some ⟨w2.heap.size, 0, none⟩) 1 1 [.int .i64 D] (by rfl) rfl ?d1 ?d2 ?d3 ?d4 ?d5 ?d6
     case d1 => exact fun _ => ⟨_, rfl, fun j u hj => by
      match j, hj with
      | 0, hj => simp at hj; subst hj; simp [Addr.add]⟩
     case d2 => intro u hu; simp at hu; subst hu; rfl
     case d3 => unfold maxLen; omega
     case d4 => omega
     case d5 => simp; omega
     intro to2 tc2 w4 own4 hle4 hB4 _ _ hsz4
     have hS4 := hS3.keep hB4 hgb
     have hP4 := hP3.keep hB4 hbl
     refine hK.out _ _ (fun _ => ⟨hS4, hP4⟩) ?_
     clear hK K
     try simp only [Act.put, yq3, yq4, yq5]
     rw [iv_snoc, hD.out, eD.out, ← subP_succ] at own4
     replace hS := And.intro hS4 hP4
     refine AnyG.take 15 (v := ?vv19) rfl (by kernel_rfl) (by kernel_rfl) (by kernel_rfl) (by kernel_rfl) (fun _ _ _ h => h) hS ?hy19 (by rfl) ?rest19
     case hy19 =>
      intro w0 h0
      go_simp
      try with_reducible rfl
     simp only [Act.put, yq3, yq4, yq5]
     refine AnyG.one 16 (by kernel_rfl) rfl ?_
     intro K hK
     have x3 := hS4.bx.cell 3 rfl
     have y3 := hS4.bx.frozen 3
     go_simp
     refine hK.out _ _ (fun h => absurd (by decide) h) ?_
     clear hK K
     try simp only [Act.put, yq3, yq4, yq5]
     refine AnyG.done (by kernel_rfl) ?_ _
     have hS5 := hS4.sub (.slice to2 (q + 1) tc2)
     have hP5 := hP4.other (a := ⟨w1.heap.size, 3, none⟩) (show bs ≠ w1.heap.size by omega) (.slice to2 (q + 1) tc2)
     have HO : Hid ((w4.setCell ⟨w1.heap.size, 3, none⟩ (.slice to2 (q + 1) tc2)).ownsRow b 3 1 (.slice to2 (q + 1) tc2) (q + 1) (iv (subP m xs (q + 1)))) := owns_set own4 hgb
     have hs5 : b ≤ (w4.setCell ⟨w1.heap.size, 3, none⟩ (.slice to2 (q + 1) tc2)).heap.size := by
      rw [show (w4.setCell ⟨w1.heap.size, 3, none⟩ (.slice to2 (q + 1) tc2)).heap.size = w4.heap.size by simp [World.setCell]]
      have : (w2.alloc (.cells #[.int .i64 D] 3)).heap.size = w2.heap.size + 1 := by simp
      omega
     clear own4 own2 hown hS hS2 hS3 hS4 hB2 hB4 hi hz0 hz1 hz2 hP2 hP3 hP4 hSup2
     go_wp2
     exact ⟨⟨q + 1, to2, tc2, by omega, by go_num, by omega, hS5, hP5, hs5, HO.out⟩, by simp only [intOf]; omega⟩
    ·obtain rfl : q = xs.length := by omega
     have hlt3 : ¬ ((xs.length : Nat) : Int) < (xs.length : Int) := by omega
     have x0 := hB2.bx.cell 0 rfl
     have x1 := hB2.bx.cell 1 rfl
     have x2 := hB2.bx.cell 2 rfl
     have x3 := hB2.bx.cell 3 rfl
     have y0 := hB2.b2.cell 0 rfl
     have y1 := hB2.b2.cell 1 rfl
     have y2 := hB2.b2.cell 2 rfl
     have y3 := hB2.b2.cell 3 rfl
     have f0 := hB2.b2.frozen 0
     have f1 := hB2.b2.frozen 1
     have f2 := hB2.b2.frozen 2
     have f3 := hB2.b2.frozen 3
     have gb : w.heap.size + 1 < b := by have := hB2.hg; omega
     have nb : bs ≠ w.heap.size + 1 := by have := hB2.hg; omega
     have hC : Cel ((((wr.setCell ⟨w.heap.size + 1, 0, none⟩ (.int .i64 m)).setCell ⟨w.heap.size + 1, 1, none⟩ (.slice ao xs.length cap)).setCell ⟨w.heap.size + 1, 2, none⟩ (.slice (some ⟨bs, 0, none⟩) M sc)).setCell ⟨w.heap.size + 1, 3, none⟩ (.slice tO xs.length tc)) (w.heap.size + 1) [.int .i64 m, .slice ao xs.length cap, .slice (some ⟨bs, 0, none⟩) M sc, .slice tO xs.length tc] 28 := (((hB2.b2.set 0 (.int .i64 m)).set 1 (.slice ao xs.length cap)).set 2 (.slice (some ⟨bs, 0, none⟩) M sc)).set 3 (.slice tO xs.length tc)
     have HT := nd_own (owns_set (owns_set (owns_set (owns_set hown (a := ⟨w.heap.size + 1, 0, none⟩) (u := .int .i64 m) gb) (a := ⟨w.heap.size + 1, 1, none⟩) (u := .slice ao xs.length cap) gb) (a := ⟨w.heap.size + 1, 2, none⟩) (u := .slice (some ⟨bs, 0, none⟩) M sc) gb) (a := ⟨w.heap.size + 1, 3, none⟩) (u := .slice tO xs.length tc) gb)
     have HP := (((hSup2.other (a := ⟨w.heap.size + 1, 0, none⟩) nb (.int .i64 m)).other (a := ⟨w.heap.size + 1, 1, none⟩) nb (.slice ao xs.length cap)).other (a := ⟨w.heap.size + 1, 2, none⟩) nb (.slice (some ⟨bs, 0, none⟩) M sc)).other (a := ⟨w.heap.size + 1, 3, none⟩) nb (.slice tO xs.length tc)
     have HB := below_set (below_set (below_set (below_set hB2.hw (w.heap.size + 1) 0 (.int .i64 m) (Nat.le_succ _)) (w.heap.size + 1) 1 (.slice ao xs.length cap) (Nat.le_succ _)) (w.heap.size + 1) 2 (.slice (some ⟨bs, 0, none⟩) M sc) (Nat.le_succ _)) (w.heap.size + 1) 3 (.slice tO xs.length tc) (Nat.le_succ _)
     have HZ := (below_set (below_set (below_set (below_set (Below.refl w.heap.size wr) (w.heap.size + 1) 0 (.int .i64 m) (Nat.le_succ _)) (w.heap.size + 1) 1 (.slice ao xs.length cap) (Nat.le_succ _)) (w.heap.size + 1) 2 (.slice (some ⟨bs, 0, none⟩) M sc) (Nat.le_succ _)) (w.heap.size + 1) 3 (.slice tO xs.length tc) (Nat.le_succ _)).size
     have HU := sup_nd HP (Nat.lt_of_lt_of_le (Nat.lt_of_lt_of_le hbl hbw) HZ)
     have F1 : Fr w.heap.size (some ⟨bs, 0, none⟩) := fun a ha => by
      cases ha
      have := hB2.hg
      show w.heap.size ≤ bs
      omega
     have F2 : Fr w.heap.size tO := own_fr hown (by omega)
     have HF := And.intro HU (And.intro HT (And.intro HB (And.intro F1 F2)))
     replace HF := Hid.mk' HF
     have k0 := hC.cell 0 rfl
     have k1 := hC.cell 1 rfl
     have k2 := hC.cell 2 rfl
     have k3 := hC.cell 3 rfl
     clear HT HP HB hC hSup2 hown h2 HZ HU F1 F2
     go_wp2
     refine bodyPost_ret (v := .tuple #[.agg #[.int .i64 m, .slice ao xs.length cap, .slice (some ⟨bs, 0, none⟩) M sc, .slice tO xs.length tc], .int .i64 0]) (by simp [results, Tryz.results12, go_sem, k0, k1, k2, k3]) rfl ⟨some ⟨bs, 0, none⟩, sc, tO, tc, ?_, HF.out.1, ?_, HF.out.2.1, ?_, HF.out.2.2⟩
     ·rw [length_subL]
     ·exact hqc
     ·rw [length_subL]; exact hqc2
end Go.Proofs.YtcaalcjcpddhaaaGreat
