/-
  The contract of the program's Make.
-/
import Derived.Test.YtojjinjgmijgcaaBx4
import Derived.Deep.Cut
import Derived.Deep.DeepCutAuto
namespace Go.Proofs.Ytojjinjgmijgcaa
open Go.RowKit
set_option linter.unusedVariables false
set_option linter.unusedSimpArgs false
set_option maxRecDepth 100000

section
variable {P : Program} {ops : Array Oper} {Q : Exit → Act → World → Prop} {md : Region.Mode} {S : World → Prop} {ns : List Nat}
theorem AnyG.threeB (i j k : Nat) {o p q : Oper} {f : Nat} {l : Array Bool} {a : Act} {w : World} (hr : Region.ready md ops l = [i, j, k]) (ho : ops[i]? = some o) (hp : ops[j]? = some p) (hq : ops[k]? = some q)
    (h : ∀ K : Act → World → Prop, Shut (∀ a' w', (i ∉ ns → S w') → AnyG P md ops Q S ns f (l.setIfInBounds i true) a' w' → K a' w') → if Region.wanted o (yielded ops a.tmps) = true then Oper.wp P o a w K Q else K (a.put o.dst undef) w)
    (h2 : ∀ K : Act → World → Prop, Shut (∀ a' w', (j ∉ ns → S w') → AnyG P md ops Q S ns f (l.setIfInBounds j true) a' w' → K a' w') → if Region.wanted p (yielded ops a.tmps) = true then Oper.wp P p a w K Q else K (a.put p.dst undef) w)
    (h3 : ∀ K : Act → World → Prop, Shut (∀ a' w', (k ∉ ns → S w') → AnyG P md ops Q S ns f (l.setIfInBounds k true) a' w' → K a' w') → if Region.wanted q (yielded ops a.tmps) = true then Oper.wp P q a w K Q else K (a.put q.dst undef) w) :
    AnyG P md ops Q S ns (f + 1) l a w := by
  refine ⟨fun h0 => absurd (hr.symm.trans h0) (by simp), fun x hx => ?_⟩
  rw [hr] at hx
  rcases List.mem_cons.1 hx with rfl | hx
  · exact wpOp_step ho (fun K hK => h K (fun a' w' hS hW => hK a' w' ⟨fun n _ => hS n, hW⟩))
  · rcases List.mem_cons.1 hx with rfl | hx
    · exact wpOp_step hp (fun K hK => h2 K (fun a' w' hS hW => hK a' w' ⟨fun n _ => hS n, hW⟩))
    · obtain rfl := List.mem_singleton.1 hx
      exact wpOp_step hq (fun K hK => h3 K (fun a' w' hS hW => hK a' w' ⟨fun n _ => hS n, hW⟩))
end
theorem bstep_store {ops : Array Oper} {d : Option Tmp} {ty T : TypeId} {ps : String} {af : Array Edge} {a : Act} {w : World} {K : Act → World → Prop} {Q : Exit → Act → World → Prop} {E : Prop} {x y : Operand}
    (g : Nat) (old cs : List Value) (hx : a.eval x = .pointer (some ⟨g, 0, none⟩)) (hy : a.eval y = .agg cs.toArray) (hc : Cel w g old T) (lo : old.length = cs.length) (hi : (Try.prog.info? T).map (·.size) = some cs.length) (h1 : cs.toArray.all (·.oneCell') = true)
    (h : ∀ w1, Cel w1 g cs T → Only g w w1 → K (a.put d undef) w1) :
    if Region.wanted (⟨d, .store T x y, ty, ps, af, none⟩ : Oper) (yielded ops a.tmps) = true then Oper.wp Try.prog (⟨d, .store T x y, ty, ps, af, none⟩ : Oper) a w K Q else E := by
  rw [if_pos (by simp [Region.wanted])]
  exact wp_store_row _ x y rfl g cs.toArray hx hy _ _ hc (by simpa using hi) (by simpa using lo) h1 (h _ (setRow_heap w g _ _ _ _ hc) (Only.row g w _))
theorem bstep_make {ops : Array Oper} {d : Option Tmp} {ty t : TypeId} {ps : String} {af : Array Edge} {a : Act} {w : World} {K : Act → World → Prop} {Q : Exit → Act → World → Prop} {E : Prop} {l c : Operand}
    (base : Nat) (e : TypeId) (i : TypeInfo) (z : Value) (size : Nat) (h1 : Try.prog.underlying t = some (.slice e)) (h2 : Try.prog.info? e = some i) (h3 : i.zero = some z) (h4 : i.size = size) (n : Nat) (hl : a.eval l = .int .i64 0) (hc : a.eval c = .int .i64 (n : Int)) (b2 : i.bytes * n ≤ 281474976710656) (b3 : n ≤ maxLen) (b4 : base ≤ w.heap.size)
    (hK : ∀ w', w'.ownsRow base e size (.slice (some ⟨w.heap.size, 0, none⟩) 0 n) 0 [] → w.grownBy w' none → K (a.put d (.slice (some ⟨w.heap.size, 0, none⟩) 0 n)) w') :
    if Region.wanted (⟨d, .makeSlice t l c, ty, ps, af, none⟩ : Oper) (yielded ops a.tmps) = true then Oper.wp Try.prog (⟨d, .makeSlice t l c, ty, ps, af, none⟩ : Oper) a w K Q else E := by
  rw [if_pos (by simp [Region.wanted])]
  obtain ⟨w', hrun, r1, r2⟩ := run_make_own (P := Try.prog) w base t e i z size h1 h2 h3 h4 .i64 .i64 n b2 b3 b4
  unfold Oper.wp
  simp [execOp, hl, hc, hrun, Result.andThen]
  exact hK w' r1 r2
theorem bstep_app {ops : Array Oper} {d : Option Tmp} {ty t : TypeId} {ps : String} {af : Array Edge} {a : Act} {w : World} {K : Act → World → Prop} {Q : Exit → Act → World → Prop} {E : Prop} {s x : Operand}
    (base : Nat) (e : TypeId) (i : TypeInfo) (size : Nat) (h1 : Try.prog.underlying t = some (.slice e)) (h2 : Try.prog.info? e = some i) (h4 : i.size = size)
    (g k cap : Nat) (xs : List Value) (hs : a.eval s = .slice (some ⟨g, 0, none⟩) k cap) (hown : w.ownsRow base e size (.slice (some ⟨g, 0, none⟩) k cap) k xs) (ad : Addr) (m c : Nat) (news : List Value) (hx : a.eval x = .slice (some ad) m c) (hn : news.length = m * size)
    (hc : ∀ j u, news[j]? = some u → w.cell? (ad.add j) = some u) (h1c : ∀ u ∈ news, u.oneCell' = true) (b1 : k + m ≤ cap)
    (hK : ∀ w', w'.ownsRow base e size (.slice (some ⟨g, 0, none⟩) (k + m) cap) (k + m) (xs ++ news) → w.grownBy w' (some g) → K (a.put d (.slice (some ⟨g, 0, none⟩) (k + m) cap)) w') :
    if Region.wanted (⟨d, .call { callee := .builtin .append, args := #[s, x], argTypes := #[t, t] }, ty, ps, af, none⟩ : Oper) (yielded ops a.tmps) = true then Oper.wp Try.prog (⟨d, .call { callee := .builtin .append, args := #[s, x], argTypes := #[t, t] }, ty, ps, af, none⟩ : Oper) a w K Q else E := by
  rw [if_pos (by simp [Region.wanted])]
  obtain ⟨w', hrun, r1, r2⟩ := run_append_fits (P := Try.prog) w base t ty e i size h1 h2 h4 g k cap xs hown ad m c news hn hc h1c b1
  unfold Oper.wp
  simp [execOp, resolve, invoke, builtin, hs, hx, hrun, Result.andThen]
  exact hK w' r1 r2
/-- A row of its own block stays, if the block stays. -/
theorem own_block {w w' : World} {g b e n cap : Nat} {vs : List Value} (h : w.ownsRow b e 1 (.slice (some ⟨g, 0, none⟩) n cap) n vs) (hb : w'.heap[g]? = w.heap[g]?) : w'.ownsRow b e 1 (.slice (some ⟨g, 0, none⟩) n cap) n vs := by
  obtain ⟨h1, h2 | ⟨g', cap', cur, e1, e2, hh, r⟩⟩ := h
  · simp at h2
  · have e3 := e1
    simp only [Value.slice.injEq, Option.some.injEq, Addr.mk.injEq] at e3
    obtain ⟨⟨rfl, _, _⟩, _, rfl⟩ := e3
    exact ⟨h1, .inr ⟨g, cap, cur, e1, e2, hb.trans hh, r⟩⟩
theorem nd_block {w w' : World} {b off : Nat} {l : List Int} (h : Nd w (some ⟨b, off, none⟩) l) (hb : w'.heap[b]? = w.heap[b]?) (hs : w.heap.size ≤ w'.heap.size) : Nd w' (some ⟨b, off, none⟩) l := by
  intro h0
  obtain ⟨b', off', e, hlt, hc⟩ := h h0
  simp only [Option.some.injEq, Addr.mk.injEq] at e
  obtain ⟨rfl, rfl, _⟩ := e
  exact ⟨b, off, rfl, by omega, fun i hi => (World.cell?_of_block (a := ⟨b, off + i, none⟩) hb).trans (hc i hi)⟩
/-- What stands while signs are laid. -/
structure MK (wb wr : World) (t : List Nat) (gb gl gc bc q : Nat) : Prop where
  bx : Cel wr gb [.slice (some ⟨gl, 0, none⟩) (Su.lq t q).length t.length, .int .i64 (Su.rv t q : Nat), .slice (some ⟨gc, 0, none⟩) 257 bc] 25
  ow : wr.ownsRow gl 5 1 (.slice (some ⟨gl, 0, none⟩) (Su.lq t q).length t.length) (Su.lq t q).length (yv (Su.lq t q))
  nd : Nd wr (some ⟨gc, 0, none⟩) (toI (Su.fs t))
  hb : Below wb.heap.size wb wr
def QK (wb : World) (t : List Nat) (v7 : Value) (wx : World) : Prop := ∃ gb gl gc bc, v7 = .pointer (some ⟨gb, 0, none⟩) ∧ (wb.heap.size ≤ gb ∧ wb.heap.size ≤ gl ∧ wb.heap.size ≤ gc ∧ gb ≠ gl ∧ gb ≠ gc ∧ gl ≠ gc) ∧ 257 ≤ bc ∧ gc < wx.heap.size ∧ MK wb wx t gb gl gc bc 0
theorem minfoB : (Try.prog.info? 25).map (·.size) = some 3 := by kernel_rfl
set_option maxHeartbeats 16000000 in
theorem bmake_in (ao : Option Addr) (t : List Nat) (cap : Nat) (w : World) (hx : Bd w ao t) (hb : Bytes t) (hc : t.length ≤ cap) (hl : t.length ≤ 8192) :
    Calls Try.prog 11 #[.slice ao t.length cap] w (MakQ t w) := by
  obtain ⟨W, hW⟩ : ∃ W, W = w.alloc (.cells #[.slice none 0 0, .int .i64 0, .slice none 0 0] 25) := ⟨_, rfl⟩
  have bW : Below w.heap.size w W := by rw [hW]; exact below_alloc w _
  have B0 : Cel W w.heap.size [.slice none 0 0, .int .i64 0, .slice none 0 0] 25 := by rw [hW]; exact Cel.new w _ _
  have A1 : Hid (∀ w0, w0 = W → Calls Try.prog 17 #[.slice ao t.length cap] w0 (ArrQ t w0)) := fun w0 h => by subst h; exact sarr_c ao t cap w0 (hx.keep bW) hb hc
  unfold ArrQ at A1
  obtain ⟨i5, hi5, za5, zb5, zc5⟩ := info_parts Try.info5
  obtain ⟨m1, m2, m3⟩ := Su.mk_in hl
  unfold MakQ
  rw [m1, m2, m3, (Su.arr_in hl).2, Su.length_fs, Su.length_La]
  rw [(Su.arr_in hl).1, (Su.arr_in hl).2, Su.length_sa] at A1
  have C1 : Hid (∀ w0, Below w.heap.size w w0 → Calls Try.prog 18 #[.slice ao t.length cap] w0 fun e w' => e = .returned (.agg (iv (Su.fs t)).toArray) ∧ Below w0.heap.size w0 w') := fun w0 h => bcts_c ao t cap w0 (hx.keep h) hb (by omega)
  have LF := hide (Su.length_fs t)
  have C2a : Hid (∀ g, Hid (∀ w0, Cel w0 g (iv (Su.fs t)) 46 → Calls Try.prog 19 #[.slice (some ⟨g, 0, none⟩) 257 257] w0 fun e w' => ∃ gc bc, e = .returned (.slice (some ⟨gc, 0, none⟩) 257 bc) ∧ Nd w' (some ⟨gc, 0, none⟩) (toI (Su.fs t)) ∧ 257 ≤ bc ∧ w0.heap.size ≤ gc ∧ gc < w'.heap.size ∧ Below w0.heap.size w0 w')) := fun g w0 h => by
    have := bclone_c g (Su.fs t) 257 46 w0 h (by rw [Su.length_fs]; omega) (by rw [Su.length_fs]; omega)
    rw [Su.length_fs] at this
    refine this.mono fun e w' ⟨gc, bc, a, o, b, c⟩ => ⟨gc, bc, a, fun _ => ⟨gc, 0, rfl, o.lt.2, fun i hi => ?_⟩, b, o.lt.1, o.lt.2, c⟩
    rw [length_toI] at hi
    rw [Nat.zero_add, gi_toI]
    exact o.cell i hi
  have HX := hide hx
  have HI := hide (And.intro hi5 (And.intro za5 (And.intro zb5 zc5)))
  have QFa : Hid (∀ wb n, n = t.length → Hid (∀ gb gl gc bc wx, (wb.heap.size ≤ gb ∧ wb.heap.size ≤ gl ∧ wb.heap.size ≤ gc ∧ gb ≠ gl ∧ gb ≠ gc ∧ gl ≠ gc) → 257 ≤ bc → gc < wx.heap.size → Cel wx gb [.slice (some ⟨gl, 0, none⟩) 0 n, .int .i64 0, .slice (some ⟨gc, 0, none⟩) 257 bc] 25 → wx.ownsRow gl 5 1 (.slice (some ⟨gl, 0, none⟩) 0 n) 0 [] → Nd wx (some ⟨gc, 0, none⟩) (toI (Su.fs t)) → Below wb.heap.size wb wx → QK wb t (.pointer (some ⟨gb, 0, none⟩)) wx)) := fun wb n hn gb gl gc bc wx h1 h2 h3 h4 h5 h6 h7 => by
    subst hn
    have e : Su.rv t 0 = 0 := by unfold Su.rv; rw [if_neg (by omega)]
    refine ⟨gb, gl, gc, bc, rfl, h1, h2, h3, ⟨?_, ?_, h6, h7⟩⟩
    · rw [Su.lq_zero, e]
      exact h4
    · rw [Su.lq_zero]
      exact h5
  obtain ⟨n, hn⟩ : ∃ n, Hid (n = t.length) := ⟨_, rfl⟩
  have hn2 : n ≤ 8192 := by rw [hn.out]; exact hl
  rw [← hn.out] at A1 C1 ⊢
  clear hx hl hc m1 m2 m3
  go_enter Try.func11, Try.ntmps11
  go_wp2_with fail
  rw [← hW]
  refine (A1.out _ rfl).mono ?_
  rintro e w1 ⟨so, sc, rfl, hN, _, hb1⟩
  have HN := hide hN
  have HB := hide (bW.trans (hb1.mono bW.size))
  replace B0 := hide (B0.kept hb1)
  have hw1 : w.heap.size < w1.heap.size := B0.out.lt
  clear hb1 hN A1 hW bW W
  go_wp2_with fail
  refine (C1.out _ HB.out).mono ?_
  rintro e w2 ⟨rfl, hb1⟩
  replace HN := hide (HN.out.keep hb1)
  replace B0 := hide (B0.out.kept hb1)
  replace HB := hide (HB.out.trans (hb1.mono HB.out.size))
  have hw2 : w.heap.size < w2.heap.size := B0.out.lt
  clear hb1 C1
  go_wp2_with (first | refine alloc_z _ info_cn ?_ | fail)
  intro w3 hc3 hb3 hs3
  have HB3 := hide hb3
  replace B0 := hide (B0.out.kept hb3)
  replace HB := hide (HB.out.trans (hb3.mono HB.out.size))
  have HC3 := hide hc3
  clear hb3 hc3 hs3
  obtain ⟨g6, hg6⟩ : ∃ g, Hid (g = w2.heap.size) := ⟨_, rfl⟩
  rw [← hg6.out] at HC3 hw2 ⊢
  go_wp2_with (first | refine store_cn g6 _ _ rfl rfl HC3.out (by simp) LF.out ?_ | fail)
  intro wb hc4 hO
  have C6 := hide hc4
  have B0b := hide (hO.cel B0.out (by omega))
  have HBb := hide (HB.out.trans (hO.below (by omega)))
  have HNb : Hid (Nd wb so (toI (Su.sa t))) := HN.out.keep (HB3.out.trans (hO.below (by have := hg6.out; omega)))
  have HXb := hide (HX.out.keep HBb.out)
  have C2 := C2a.out g6
  have QF := QFa.out wb n hn.out
  have LB := B0b.out.lt
  clear hc4 hO HC3 HB B0 HN HX C2a QFa hg6 HB3
  simp only [Act.put, List.setIfInBounds_toArray, List.set]
  go_upto_region 5 with fail
  go_cut [7] (fun v7 wx => QK wb t v7 wx)
  case first =>
    refine region_g [7] (fun _ => True) (by kernel_rfl) ?_
    have HBc := hide ((Below.refl wb.heap.size wb).drew)
    replace C6 := hide (C6.out.drew)
    clear HNb HXb HBb B0b
    generalize wb.drew = Y at *
    obtain ⟨hi5, za5, zb5, zc5⟩ := HI.out
    have szY := HBc.out.size
    have hS : True := trivial
    refine AnyG.take 0 (v := ?vv1) rfl (by kernel_rfl) (by kernel_rfl) (by kernel_rfl) (by kernel_rfl) (fun _ _ _ h => h) hS ?hy1 (by rfl) ?rest1
    case hy1 =>
      intro w0 h0
      go_simp
      try with_reducible rfl
    simp only [Act.put, List.getElem_toArray, List.getElem_cons_zero, List.getElem_cons_succ, List.setIfInBounds_toArray, List.set_cons_zero, List.set_cons_succ]
    refine AnyG.take 1 (v := ?vv2) rfl (by kernel_rfl) (by kernel_rfl) (by kernel_rfl) (by kernel_rfl) (fun _ _ _ h => h) hS ?hy2 (by rfl) ?rest2
    case hy2 =>
      intro w0 h0
      go_simp
      try with_reducible rfl
    simp only [Act.put, List.getElem_toArray, List.getElem_cons_zero, List.getElem_cons_succ, List.setIfInBounds_toArray, List.set_cons_zero, List.set_cons_succ]
    refine AnyG.take 3 (v := ?vv3) rfl (by kernel_rfl) (by kernel_rfl) (by kernel_rfl) (by kernel_rfl) (fun _ _ _ h => h) hS ?hy3 (by rfl) ?rest3
    case hy3 =>
      intro w0 h0
      go_simp
      try with_reducible rfl
    simp only [Act.put, List.getElem_toArray, List.getElem_cons_zero, List.getElem_cons_succ, List.setIfInBounds_toArray, List.set_cons_zero, List.set_cons_succ]
    refine AnyG.threeB 2 4 6 (by kernel_rfl) rfl rfl rfl ?_ ?_ ?_
    · intro K hK
      refine bstep_make Y.heap.size 5 i5 (.int .u8 0) 1 Try.underlying22 hi5 za5 zb5 n rfl rfl (by rw [zc5]; omega) (by unfold maxLen; omega) (Nat.le_refl _) ?_
      intro YL hown hgr
      have CL := hide hown
      have bYL : Below Y.heap.size Y YL := (Below.refl _ _).grown hgr (Nat.le_refl _) (fun k h => by cases h)
      clear hown hgr
      refine hK.out _ _ (fun _ => trivial) ?_
      clear hK K
      try simp only [Act.put, List.getElem_toArray, List.getElem_cons_zero, List.getElem_cons_succ, List.setIfInBounds_toArray, List.set_cons_zero, List.set_cons_succ]
      obtain ⟨gL, hgL⟩ : ∃ g, Hid (g = Y.heap.size) := ⟨_, rfl⟩
      rw [← hgL.out] at CL ⊢
      have loL : Y.heap.size ≤ gL := by rw [hgL.out]; exact Nat.le_refl _
      have ltL : gL < YL.heap.size := (CL.out.lt gL rfl).2
      clear hgL
      replace C6 := hide (C6.out.kept bYL)
      replace HBc := hide (HBc.out.trans (bYL.mono HBc.out.size))
      have szYL := HBc.out.size
      clear bYL
      refine AnyG.two 4 6 (by kernel_rfl) rfl rfl ?_ ?_
      · intro K hK
        go_simp
        refine (C2.out _ C6.out).mono ?_
        rintro e YLC ⟨gC, bc, rfl, hNC, hbc, loC, ltC, bYLC⟩
        have CC := hide hNC
        clear hNC
        refine hK.out _ _ (fun _ => trivial) ?_
        clear hK K
        try simp only [Act.put, List.getElem_toArray, List.getElem_cons_zero, List.getElem_cons_succ, List.setIfInBounds_toArray, List.set_cons_zero, List.set_cons_succ]
        replace CL := hide (owns_below CL.out bYLC)
        have ltLYLC : gL < YLC.heap.size := (CL.out.lt gL rfl).2
        replace C6 := hide (C6.out.kept bYLC)
        replace HBc := hide (HBc.out.trans (bYLC.mono HBc.out.size))
        have szYLC := HBc.out.size
        clear bYLC
        have hS : True := trivial
        refine AnyG.take 5 (v := ?vv4) rfl (by kernel_rfl) (by kernel_rfl) (by kernel_rfl) (by kernel_rfl) (fun _ _ _ h => h) hS ?hy4 (by rfl) ?rest4
        case hy4 =>
          intro w0 h0
          go_simp
          try with_reducible rfl
        simp only [Act.put, List.getElem_toArray, List.getElem_cons_zero, List.getElem_cons_succ, List.setIfInBounds_toArray, List.set_cons_zero, List.set_cons_succ]
        refine AnyG.one 6 (by kernel_rfl) rfl ?_
        intro K hK
        go_simp
        refine hK.out _ _ (fun _ => trivial) ?_
        clear hK K
        try simp only [Act.put, List.getElem_toArray, List.getElem_cons_zero, List.getElem_cons_succ, List.setIfInBounds_toArray, List.set_cons_zero, List.set_cons_succ]
        obtain ⟨YLCX, hYLCX⟩ : ∃ YLCX, YLCX = YLC.alloc (.cells #[.slice none 0 0, .int .i64 0, .slice none 0 0] 25) := ⟨_, rfl⟩
        have bYLCX : Below YLC.heap.size YLC YLCX := by rw [hYLCX]; exact below_alloc _ _
        have CX := hide (show Cel YLCX YLC.heap.size [.slice none 0 0, .int .i64 0, .slice none 0 0] 25 by rw [hYLCX]; exact Cel.new _ _ _)
        rw [← hYLCX]
        clear hYLCX
        obtain ⟨gX, hgX⟩ : ∃ g, Hid (g = YLC.heap.size) := ⟨_, rfl⟩
        rw [← hgX.out] at CX ⊢
        have loX : YLC.heap.size ≤ gX := by rw [hgX.out]; exact Nat.le_refl _
        have ltX : gX < YLCX.heap.size := CX.out.lt
        clear hgX
        replace CL := hide (owns_below CL.out bYLCX)
        have ltLYLCX : gL < YLCX.heap.size := (CL.out.lt gL rfl).2
        replace CC := hide (CC.out.keep bYLCX)
        have ltCYLCX : gC < YLCX.heap.size := by have := bYLCX.size; omega
        replace C6 := hide (C6.out.kept bYLCX)
        replace HBc := hide (HBc.out.trans (bYLCX.mono HBc.out.size))
        have szYLCX := HBc.out.size
        clear bYLCX
        have hS : True := trivial
        refine AnyG.one 7 (by kernel_rfl) rfl ?_
        intro K hK
        refine bstep_store gX [.slice none 0 0, .int .i64 0, .slice none 0 0] [.slice (some ⟨gL, 0, none⟩) 0 n, .int .i64 0, .slice (some ⟨gC, 0, none⟩) 257 bc] rfl rfl CX.out rfl minfoB (by simp [Value.oneCell']) ?_
        intro wE CE OE
        refine hK.out _ _ (fun h => absurd (by decide) h) ?_
        clear hK K
        try simp only [Act.put, List.getElem_toArray, List.getElem_cons_zero, List.getElem_cons_succ, List.setIfInBounds_toArray, List.set_cons_zero, List.set_cons_succ]
        refine AnyG.done (by kernel_rfl) ?_ _
        have hQ := hide (QF.out gX gL gC bc wE ⟨by omega, by omega, by omega, by omega, by omega, by omega⟩ hbc (by rw [OE.size]; omega) CE (own_block CL.out (OE.block _ (by omega))) (nd_only CC.out OE (by omega)) (HBc.out.trans (OE.below (by omega))))
        clear CE OE CL CC CX HBc QF
        go_wp2_with fail
        go_meet
        exact hQ.out
      · intro K hK
        go_simp
        refine hK.out _ _ (fun _ => trivial) ?_
        clear hK K
        try simp only [Act.put, List.getElem_toArray, List.getElem_cons_zero, List.getElem_cons_succ, List.setIfInBounds_toArray, List.set_cons_zero, List.set_cons_succ]
        obtain ⟨YLX, hYLX⟩ : ∃ YLX, YLX = YL.alloc (.cells #[.slice none 0 0, .int .i64 0, .slice none 0 0] 25) := ⟨_, rfl⟩
        have bYLX : Below YL.heap.size YL YLX := by rw [hYLX]; exact below_alloc _ _
        have CX := hide (show Cel YLX YL.heap.size [.slice none 0 0, .int .i64 0, .slice none 0 0] 25 by rw [hYLX]; exact Cel.new _ _ _)
        rw [← hYLX]
        clear hYLX
        obtain ⟨gX, hgX⟩ : ∃ g, Hid (g = YL.heap.size) := ⟨_, rfl⟩
        rw [← hgX.out] at CX ⊢
        have loX : YL.heap.size ≤ gX := by rw [hgX.out]; exact Nat.le_refl _
        have ltX : gX < YLX.heap.size := CX.out.lt
        clear hgX
        replace CL := hide (owns_below CL.out bYLX)
        have ltLYLX : gL < YLX.heap.size := (CL.out.lt gL rfl).2
        replace C6 := hide (C6.out.kept bYLX)
        replace HBc := hide (HBc.out.trans (bYLX.mono HBc.out.size))
        have szYLX := HBc.out.size
        clear bYLX
        refine AnyG.one 4 (by kernel_rfl) rfl ?_
        intro K hK
        go_simp
        refine (C2.out _ C6.out).mono ?_
        rintro e YLXC ⟨gC, bc, rfl, hNC, hbc, loC, ltC, bYLXC⟩
        have CC := hide hNC
        clear hNC
        refine hK.out _ _ (fun _ => trivial) ?_
        clear hK K
        try simp only [Act.put, List.getElem_toArray, List.getElem_cons_zero, List.getElem_cons_succ, List.setIfInBounds_toArray, List.set_cons_zero, List.set_cons_succ]
        replace CL := hide (owns_below CL.out bYLXC)
        have ltLYLXC : gL < YLXC.heap.size := (CL.out.lt gL rfl).2
        replace CX := hide (CX.out.kept bYLXC)
        have ltXYLXC := CX.out.lt
        replace C6 := hide (C6.out.kept bYLXC)
        replace HBc := hide (HBc.out.trans (bYLXC.mono HBc.out.size))
        have szYLXC := HBc.out.size
        clear bYLXC
        have hS : True := trivial
        refine AnyG.take 5 (v := ?vv5) rfl (by kernel_rfl) (by kernel_rfl) (by kernel_rfl) (by kernel_rfl) (fun _ _ _ h => h) hS ?hy5 (by rfl) ?rest5
        case hy5 =>
          intro w0 h0
          go_simp
          try with_reducible rfl
        simp only [Act.put, List.getElem_toArray, List.getElem_cons_zero, List.getElem_cons_succ, List.setIfInBounds_toArray, List.set_cons_zero, List.set_cons_succ]
        refine AnyG.one 7 (by kernel_rfl) rfl ?_
        intro K hK
        refine bstep_store gX [.slice none 0 0, .int .i64 0, .slice none 0 0] [.slice (some ⟨gL, 0, none⟩) 0 n, .int .i64 0, .slice (some ⟨gC, 0, none⟩) 257 bc] rfl rfl CX.out rfl minfoB (by simp [Value.oneCell']) ?_
        intro wE CE OE
        refine hK.out _ _ (fun h => absurd (by decide) h) ?_
        clear hK K
        try simp only [Act.put, List.getElem_toArray, List.getElem_cons_zero, List.getElem_cons_succ, List.setIfInBounds_toArray, List.set_cons_zero, List.set_cons_succ]
        refine AnyG.done (by kernel_rfl) ?_ _
        have hQ := hide (QF.out gX gL gC bc wE ⟨by omega, by omega, by omega, by omega, by omega, by omega⟩ hbc (by rw [OE.size]; omega) CE (own_block CL.out (OE.block _ (by omega))) (nd_only CC.out OE (by omega)) (HBc.out.trans (OE.below (by omega))))
        clear CE OE CL CC CX HBc QF
        go_wp2_with fail
        go_meet
        exact hQ.out
    · intro K hK
      go_simp
      refine (C2.out _ C6.out).mono ?_
      rintro e YC ⟨gC, bc, rfl, hNC, hbc, loC, ltC, bYC⟩
      have CC := hide hNC
      clear hNC
      refine hK.out _ _ (fun _ => trivial) ?_
      clear hK K
      try simp only [Act.put, List.getElem_toArray, List.getElem_cons_zero, List.getElem_cons_succ, List.setIfInBounds_toArray, List.set_cons_zero, List.set_cons_succ]
      replace C6 := hide (C6.out.kept bYC)
      replace HBc := hide (HBc.out.trans (bYC.mono HBc.out.size))
      have szYC := HBc.out.size
      clear bYC
      refine AnyG.two 2 6 (by kernel_rfl) rfl rfl ?_ ?_
      · intro K hK
        refine bstep_make YC.heap.size 5 i5 (.int .u8 0) 1 Try.underlying22 hi5 za5 zb5 n rfl rfl (by rw [zc5]; omega) (by unfold maxLen; omega) (Nat.le_refl _) ?_
        intro YCL hown hgr
        have CL := hide hown
        have bYCL : Below YC.heap.size YC YCL := (Below.refl _ _).grown hgr (Nat.le_refl _) (fun k h => by cases h)
        clear hown hgr
        refine hK.out _ _ (fun _ => trivial) ?_
        clear hK K
        try simp only [Act.put, List.getElem_toArray, List.getElem_cons_zero, List.getElem_cons_succ, List.setIfInBounds_toArray, List.set_cons_zero, List.set_cons_succ]
        obtain ⟨gL, hgL⟩ : ∃ g, Hid (g = YC.heap.size) := ⟨_, rfl⟩
        rw [← hgL.out] at CL ⊢
        have loL : YC.heap.size ≤ gL := by rw [hgL.out]; exact Nat.le_refl _
        have ltL : gL < YCL.heap.size := (CL.out.lt gL rfl).2
        clear hgL
        replace CC := hide (CC.out.keep bYCL)
        have ltCYCL : gC < YCL.heap.size := by have := bYCL.size; omega
        replace C6 := hide (C6.out.kept bYCL)
        replace HBc := hide (HBc.out.trans (bYCL.mono HBc.out.size))
        have szYCL := HBc.out.size
        clear bYCL
        have hS : True := trivial
        refine AnyG.take 5 (v := ?vv6) rfl (by kernel_rfl) (by kernel_rfl) (by kernel_rfl) (by kernel_rfl) (fun _ _ _ h => h) hS ?hy6 (by rfl) ?rest6
        case hy6 =>
          intro w0 h0
          go_simp
          try with_reducible rfl
        simp only [Act.put, List.getElem_toArray, List.getElem_cons_zero, List.getElem_cons_succ, List.setIfInBounds_toArray, List.set_cons_zero, List.set_cons_succ]
        refine AnyG.one 6 (by kernel_rfl) rfl ?_
        intro K hK
        go_simp
        refine hK.out _ _ (fun _ => trivial) ?_
        clear hK K
        try simp only [Act.put, List.getElem_toArray, List.getElem_cons_zero, List.getElem_cons_succ, List.setIfInBounds_toArray, List.set_cons_zero, List.set_cons_succ]
        obtain ⟨YCLX, hYCLX⟩ : ∃ YCLX, YCLX = YCL.alloc (.cells #[.slice none 0 0, .int .i64 0, .slice none 0 0] 25) := ⟨_, rfl⟩
        have bYCLX : Below YCL.heap.size YCL YCLX := by rw [hYCLX]; exact below_alloc _ _
        have CX := hide (show Cel YCLX YCL.heap.size [.slice none 0 0, .int .i64 0, .slice none 0 0] 25 by rw [hYCLX]; exact Cel.new _ _ _)
        rw [← hYCLX]
        clear hYCLX
        obtain ⟨gX, hgX⟩ : ∃ g, Hid (g = YCL.heap.size) := ⟨_, rfl⟩
        rw [← hgX.out] at CX ⊢
        have loX : YCL.heap.size ≤ gX := by rw [hgX.out]; exact Nat.le_refl _
        have ltX : gX < YCLX.heap.size := CX.out.lt
        clear hgX
        replace CC := hide (CC.out.keep bYCLX)
        have ltCYCLX : gC < YCLX.heap.size := by have := bYCLX.size; omega
        replace CL := hide (owns_below CL.out bYCLX)
        have ltLYCLX : gL < YCLX.heap.size := (CL.out.lt gL rfl).2
        replace C6 := hide (C6.out.kept bYCLX)
        replace HBc := hide (HBc.out.trans (bYCLX.mono HBc.out.size))
        have szYCLX := HBc.out.size
        clear bYCLX
        have hS : True := trivial
        refine AnyG.one 7 (by kernel_rfl) rfl ?_
        intro K hK
        refine bstep_store gX [.slice none 0 0, .int .i64 0, .slice none 0 0] [.slice (some ⟨gL, 0, none⟩) 0 n, .int .i64 0, .slice (some ⟨gC, 0, none⟩) 257 bc] rfl rfl CX.out rfl minfoB (by simp [Value.oneCell']) ?_
        intro wE CE OE
        refine hK.out _ _ (fun h => absurd (by decide) h) ?_
        clear hK K
        try simp only [Act.put, List.getElem_toArray, List.getElem_cons_zero, List.getElem_cons_succ, List.setIfInBounds_toArray, List.set_cons_zero, List.set_cons_succ]
        refine AnyG.done (by kernel_rfl) ?_ _
        have hQ := hide (QF.out gX gL gC bc wE ⟨by omega, by omega, by omega, by omega, by omega, by omega⟩ hbc (by rw [OE.size]; omega) CE (own_block CL.out (OE.block _ (by omega))) (nd_only CC.out OE (by omega)) (HBc.out.trans (OE.below (by omega))))
        clear CE OE CL CC CX HBc QF
        go_wp2_with fail
        go_meet
        exact hQ.out
      · intro K hK
        go_simp
        refine hK.out _ _ (fun _ => trivial) ?_
        clear hK K
        try simp only [Act.put, List.getElem_toArray, List.getElem_cons_zero, List.getElem_cons_succ, List.setIfInBounds_toArray, List.set_cons_zero, List.set_cons_succ]
        obtain ⟨YCX, hYCX⟩ : ∃ YCX, YCX = YC.alloc (.cells #[.slice none 0 0, .int .i64 0, .slice none 0 0] 25) := ⟨_, rfl⟩
        have bYCX : Below YC.heap.size YC YCX := by rw [hYCX]; exact below_alloc _ _
        have CX := hide (show Cel YCX YC.heap.size [.slice none 0 0, .int .i64 0, .slice none 0 0] 25 by rw [hYCX]; exact Cel.new _ _ _)
        rw [← hYCX]
        clear hYCX
        obtain ⟨gX, hgX⟩ : ∃ g, Hid (g = YC.heap.size) := ⟨_, rfl⟩
        rw [← hgX.out] at CX ⊢
        have loX : YC.heap.size ≤ gX := by rw [hgX.out]; exact Nat.le_refl _
        have ltX : gX < YCX.heap.size := CX.out.lt
        clear hgX
        replace CC := hide (CC.out.keep bYCX)
        have ltCYCX : gC < YCX.heap.size := by have := bYCX.size; omega
        replace C6 := hide (C6.out.kept bYCX)
        replace HBc := hide (HBc.out.trans (bYCX.mono HBc.out.size))
        have szYCX := HBc.out.size
        clear bYCX
        refine AnyG.one 2 (by kernel_rfl) rfl ?_
        intro K hK
        refine bstep_make YCX.heap.size 5 i5 (.int .u8 0) 1 Try.underlying22 hi5 za5 zb5 n rfl rfl (by rw [zc5]; omega) (by unfold maxLen; omega) (Nat.le_refl _) ?_
        intro YCXL hown hgr
        have CL := hide hown
        have bYCXL : Below YCX.heap.size YCX YCXL := (Below.refl _ _).grown hgr (Nat.le_refl _) (fun k h => by cases h)
        clear hown hgr
        refine hK.out _ _ (fun _ => trivial) ?_
        clear hK K
        try simp only [Act.put, List.getElem_toArray, List.getElem_cons_zero, List.getElem_cons_succ, List.setIfInBounds_toArray, List.set_cons_zero, List.set_cons_succ]
        obtain ⟨gL, hgL⟩ : ∃ g, Hid (g = YCX.heap.size) := ⟨_, rfl⟩
        rw [← hgL.out] at CL ⊢
        have loL : YCX.heap.size ≤ gL := by rw [hgL.out]; exact Nat.le_refl _
        have ltL : gL < YCXL.heap.size := (CL.out.lt gL rfl).2
        clear hgL
        replace CC := hide (CC.out.keep bYCXL)
        have ltCYCXL : gC < YCXL.heap.size := by have := bYCXL.size; omega
        replace CX := hide (CX.out.kept bYCXL)
        have ltXYCXL := CX.out.lt
        replace C6 := hide (C6.out.kept bYCXL)
        replace HBc := hide (HBc.out.trans (bYCXL.mono HBc.out.size))
        have szYCXL := HBc.out.size
        clear bYCXL
        have hS : True := trivial
        refine AnyG.take 5 (v := ?vv7) rfl (by kernel_rfl) (by kernel_rfl) (by kernel_rfl) (by kernel_rfl) (fun _ _ _ h => h) hS ?hy7 (by rfl) ?rest7
        case hy7 =>
          intro w0 h0
          go_simp
          try with_reducible rfl
        simp only [Act.put, List.getElem_toArray, List.getElem_cons_zero, List.getElem_cons_succ, List.setIfInBounds_toArray, List.set_cons_zero, List.set_cons_succ]
        refine AnyG.one 7 (by kernel_rfl) rfl ?_
        intro K hK
        refine bstep_store gX [.slice none 0 0, .int .i64 0, .slice none 0 0] [.slice (some ⟨gL, 0, none⟩) 0 n, .int .i64 0, .slice (some ⟨gC, 0, none⟩) 257 bc] rfl rfl CX.out rfl minfoB (by simp [Value.oneCell']) ?_
        intro wE CE OE
        refine hK.out _ _ (fun h => absurd (by decide) h) ?_
        clear hK K
        try simp only [Act.put, List.getElem_toArray, List.getElem_cons_zero, List.getElem_cons_succ, List.setIfInBounds_toArray, List.set_cons_zero, List.set_cons_succ]
        refine AnyG.done (by kernel_rfl) ?_ _
        have hQ := hide (QF.out gX gL gC bc wE ⟨by omega, by omega, by omega, by omega, by omega, by omega⟩ hbc (by rw [OE.size]; omega) CE (own_block CL.out (OE.block _ (by omega))) (nd_only CC.out OE (by omega)) (HBc.out.trans (OE.below (by omega))))
        clear CE OE CL CC CX HBc QF
        go_wp2_with fail
        go_meet
        exact hQ.out
    · intro K hK
      go_simp
      refine hK.out _ _ (fun _ => trivial) ?_
      clear hK K
      try simp only [Act.put, List.getElem_toArray, List.getElem_cons_zero, List.getElem_cons_succ, List.setIfInBounds_toArray, List.set_cons_zero, List.set_cons_succ]
      obtain ⟨YX, hYX⟩ : ∃ YX, YX = Y.alloc (.cells #[.slice none 0 0, .int .i64 0, .slice none 0 0] 25) := ⟨_, rfl⟩
      have bYX : Below Y.heap.size Y YX := by rw [hYX]; exact below_alloc _ _
      have CX := hide (show Cel YX Y.heap.size [.slice none 0 0, .int .i64 0, .slice none 0 0] 25 by rw [hYX]; exact Cel.new _ _ _)
      rw [← hYX]
      clear hYX
      obtain ⟨gX, hgX⟩ : ∃ g, Hid (g = Y.heap.size) := ⟨_, rfl⟩
      rw [← hgX.out] at CX ⊢
      have loX : Y.heap.size ≤ gX := by rw [hgX.out]; exact Nat.le_refl _
      have ltX : gX < YX.heap.size := CX.out.lt
      clear hgX
      replace C6 := hide (C6.out.kept bYX)
      replace HBc := hide (HBc.out.trans (bYX.mono HBc.out.size))
      have szYX := HBc.out.size
      clear bYX
      refine AnyG.two 2 4 (by kernel_rfl) rfl rfl ?_ ?_
      · intro K hK
        refine bstep_make YX.heap.size 5 i5 (.int .u8 0) 1 Try.underlying22 hi5 za5 zb5 n rfl rfl (by rw [zc5]; omega) (by unfold maxLen; omega) (Nat.le_refl _) ?_
        intro YXL hown hgr
        have CL := hide hown
        have bYXL : Below YX.heap.size YX YXL := (Below.refl _ _).grown hgr (Nat.le_refl _) (fun k h => by cases h)
        clear hown hgr
        refine hK.out _ _ (fun _ => trivial) ?_
        clear hK K
        try simp only [Act.put, List.getElem_toArray, List.getElem_cons_zero, List.getElem_cons_succ, List.setIfInBounds_toArray, List.set_cons_zero, List.set_cons_succ]
        obtain ⟨gL, hgL⟩ : ∃ g, Hid (g = YX.heap.size) := ⟨_, rfl⟩
        rw [← hgL.out] at CL ⊢
        have loL : YX.heap.size ≤ gL := by rw [hgL.out]; exact Nat.le_refl _
        have ltL : gL < YXL.heap.size := (CL.out.lt gL rfl).2
        clear hgL
        replace CX := hide (CX.out.kept bYXL)
        have ltXYXL := CX.out.lt
        replace C6 := hide (C6.out.kept bYXL)
        replace HBc := hide (HBc.out.trans (bYXL.mono HBc.out.size))
        have szYXL := HBc.out.size
        clear bYXL
        refine AnyG.one 4 (by kernel_rfl) rfl ?_
        intro K hK
        go_simp
        refine (C2.out _ C6.out).mono ?_
        rintro e YXLC ⟨gC, bc, rfl, hNC, hbc, loC, ltC, bYXLC⟩
        have CC := hide hNC
        clear hNC
        refine hK.out _ _ (fun _ => trivial) ?_
        clear hK K
        try simp only [Act.put, List.getElem_toArray, List.getElem_cons_zero, List.getElem_cons_succ, List.setIfInBounds_toArray, List.set_cons_zero, List.set_cons_succ]
        replace CX := hide (CX.out.kept bYXLC)
        have ltXYXLC := CX.out.lt
        replace CL := hide (owns_below CL.out bYXLC)
        have ltLYXLC : gL < YXLC.heap.size := (CL.out.lt gL rfl).2
        replace C6 := hide (C6.out.kept bYXLC)
        replace HBc := hide (HBc.out.trans (bYXLC.mono HBc.out.size))
        have szYXLC := HBc.out.size
        clear bYXLC
        have hS : True := trivial
        refine AnyG.take 5 (v := ?vv8) rfl (by kernel_rfl) (by kernel_rfl) (by kernel_rfl) (by kernel_rfl) (fun _ _ _ h => h) hS ?hy8 (by rfl) ?rest8
        case hy8 =>
          intro w0 h0
          go_simp
          try with_reducible rfl
        simp only [Act.put, List.getElem_toArray, List.getElem_cons_zero, List.getElem_cons_succ, List.setIfInBounds_toArray, List.set_cons_zero, List.set_cons_succ]
        refine AnyG.one 7 (by kernel_rfl) rfl ?_
        intro K hK
        refine bstep_store gX [.slice none 0 0, .int .i64 0, .slice none 0 0] [.slice (some ⟨gL, 0, none⟩) 0 n, .int .i64 0, .slice (some ⟨gC, 0, none⟩) 257 bc] rfl rfl CX.out rfl minfoB (by simp [Value.oneCell']) ?_
        intro wE CE OE
        refine hK.out _ _ (fun h => absurd (by decide) h) ?_
        clear hK K
        try simp only [Act.put, List.getElem_toArray, List.getElem_cons_zero, List.getElem_cons_succ, List.setIfInBounds_toArray, List.set_cons_zero, List.set_cons_succ]
        refine AnyG.done (by kernel_rfl) ?_ _
        have hQ := hide (QF.out gX gL gC bc wE ⟨by omega, by omega, by omega, by omega, by omega, by omega⟩ hbc (by rw [OE.size]; omega) CE (own_block CL.out (OE.block _ (by omega))) (nd_only CC.out OE (by omega)) (HBc.out.trans (OE.below (by omega))))
        clear CE OE CL CC CX HBc QF
        go_wp2_with fail
        go_meet
        exact hQ.out
      · intro K hK
        go_simp
        refine (C2.out _ C6.out).mono ?_
        rintro e YXC ⟨gC, bc, rfl, hNC, hbc, loC, ltC, bYXC⟩
        have CC := hide hNC
        clear hNC
        refine hK.out _ _ (fun _ => trivial) ?_
        clear hK K
        try simp only [Act.put, List.getElem_toArray, List.getElem_cons_zero, List.getElem_cons_succ, List.setIfInBounds_toArray, List.set_cons_zero, List.set_cons_succ]
        replace CX := hide (CX.out.kept bYXC)
        have ltXYXC := CX.out.lt
        replace C6 := hide (C6.out.kept bYXC)
        replace HBc := hide (HBc.out.trans (bYXC.mono HBc.out.size))
        have szYXC := HBc.out.size
        clear bYXC
        refine AnyG.one 2 (by kernel_rfl) rfl ?_
        intro K hK
        refine bstep_make YXC.heap.size 5 i5 (.int .u8 0) 1 Try.underlying22 hi5 za5 zb5 n rfl rfl (by rw [zc5]; omega) (by unfold maxLen; omega) (Nat.le_refl _) ?_
        intro YXCL hown hgr
        have CL := hide hown
        have bYXCL : Below YXC.heap.size YXC YXCL := (Below.refl _ _).grown hgr (Nat.le_refl _) (fun k h => by cases h)
        clear hown hgr
        refine hK.out _ _ (fun _ => trivial) ?_
        clear hK K
        try simp only [Act.put, List.getElem_toArray, List.getElem_cons_zero, List.getElem_cons_succ, List.setIfInBounds_toArray, List.set_cons_zero, List.set_cons_succ]
        obtain ⟨gL, hgL⟩ : ∃ g, Hid (g = YXC.heap.size) := ⟨_, rfl⟩
        rw [← hgL.out] at CL ⊢
        have loL : YXC.heap.size ≤ gL := by rw [hgL.out]; exact Nat.le_refl _
        have ltL : gL < YXCL.heap.size := (CL.out.lt gL rfl).2
        clear hgL
        replace CX := hide (CX.out.kept bYXCL)
        have ltXYXCL := CX.out.lt
        replace CC := hide (CC.out.keep bYXCL)
        have ltCYXCL : gC < YXCL.heap.size := by have := bYXCL.size; omega
        replace C6 := hide (C6.out.kept bYXCL)
        replace HBc := hide (HBc.out.trans (bYXCL.mono HBc.out.size))
        have szYXCL := HBc.out.size
        clear bYXCL
        have hS : True := trivial
        refine AnyG.take 5 (v := ?vv9) rfl (by kernel_rfl) (by kernel_rfl) (by kernel_rfl) (by kernel_rfl) (fun _ _ _ h => h) hS ?hy9 (by rfl) ?rest9
        case hy9 =>
          intro w0 h0
          go_simp
          try with_reducible rfl
        simp only [Act.put, List.getElem_toArray, List.getElem_cons_zero, List.getElem_cons_succ, List.setIfInBounds_toArray, List.set_cons_zero, List.set_cons_succ]
        refine AnyG.one 7 (by kernel_rfl) rfl ?_
        intro K hK
        refine bstep_store gX [.slice none 0 0, .int .i64 0, .slice none 0 0] [.slice (some ⟨gL, 0, none⟩) 0 n, .int .i64 0, .slice (some ⟨gC, 0, none⟩) 257 bc] rfl rfl CX.out rfl minfoB (by simp [Value.oneCell']) ?_
        intro wE CE OE
        refine hK.out _ _ (fun h => absurd (by decide) h) ?_
        clear hK K
        try simp only [Act.put, List.getElem_toArray, List.getElem_cons_zero, List.getElem_cons_succ, List.setIfInBounds_toArray, List.set_cons_zero, List.set_cons_succ]
        refine AnyG.done (by kernel_rfl) ?_ _
        have hQ := hide (QF.out gX gL gC bc wE ⟨by omega, by omega, by omega, by omega, by omega, by omega⟩ hbc (by rw [OE.size]; omega) CE (own_block CL.out (OE.block _ (by omega))) (nd_only CC.out OE (by omega)) (HBc.out.trans (OE.below (by omega))))
        clear CE OE CL CC CX HBc QF
        go_wp2_with fail
        go_meet
        exact hQ.out
  case rest =>
    obtain ⟨gb, gl, gc, bc, rfl, ⟨o1, o2, o3, o4, o5, o6⟩, hbc, hgc, M0'⟩ := hcut
    have M0 := hide M0'
    clear M0' C2 C6 QF
    go_wp2
    go_loopw [29] (fun v29 wr => ∃ q : Nat, q ≤ n + 1 ∧ v29 = .int .i64 q ∧ Hid (MK wb wr t gb gl gc bc q) ∧ gc < wr.heap.size) (fun v29 _ => n + 1 - (intOf v29).toNat)
    case atStart => exact ⟨0, Nat.zero_le _, rfl, M0, hgc⟩
    case round =>
      clear M0 hgc
      obtain ⟨q, hq, rfl, HM, hgcr⟩ := hrel
      by_cases hlt : q < n + 1
      · have hltz : (q : Int) < (n : Int) + 1 := by omega
        obtain ⟨b2, off2, rfl, hb2, hcc2⟩ := HNb.out (by rw [length_toI, Su.length_sa]; omega)
        have e2 := (HM.out.hb.cell (p := ⟨b2, off2 + q, none⟩) hb2).trans (hcc2 q (by rw [length_toI, Su.length_sa, ← hn.out]; exact hlt))
        rw [gi_toI] at e2
        have xle := Su.sa_le t q
        rw [← hn.out] at xle
        have hri := Su.row_iff (t := t) (q := q) (by rw [← hn.out]; omega)
        have bx := HM.out.bx
        have hgt := bx.lt
        by_cases hr : q = Su.rk t 0
        · have x0 := hri.2 hr
          rw [x0] at e2
          have c1 := bx.cell 1 rfl
          have f1 := bx.frozen 1
          have M1 : Hid (MK wb (wr.setCell ⟨gb, 1, none⟩ (.int .i64 (q : Nat))) t gb gl gc bc (q + 1)) := by
            have el : Su.lq t (q + 1) = Su.lq t q := by rw [hr]; exact Su.lq_row t
            have er : Su.rv t (q + 1) = q := by unfold Su.rv; rw [if_pos (by omega), hr]
            refine ⟨?_, ?_, nd_block HM.out.nd (Below.heap_setCell wr ⟨gb, 1, none⟩ _ gc (by show gc ≠ gb; omega)) (by simp [World.setCell]), HM.out.hb.setCell (p := ⟨gb, 1, none⟩) o1 _⟩
            · rw [el, er]
              exact bx.set 1 (.int .i64 (q : Nat))
            · rw [el]
              exact own_block HM.out.ow (Below.heap_setCell wr ⟨gb, 1, none⟩ _ gl (by show gl ≠ gb; omega))
          have zA2 : gc < (wr.setCell ⟨gb, 1, none⟩ (.int .i64 (q : Nat))).heap.size := by simp [World.setCell]; omega
          generalize (Su.rv t q) = rr at *
          clear hri hr x0 bx HM hcc2 xle
          go_wp2
          exact ⟨⟨q + 1, by omega, by go_num, M1, zA2⟩, by simp only [intOf]; omega⟩
        · have x0 : gt (Su.sa t) q ≠ 0 := fun h => hr (hri.1 h)
          have EL := hide (Su.lq_next (t := t) (q := q) (by rw [← hn.out]; omega) hr)
          have ER : Hid (Su.rv t (q + 1) = Su.rv t q) := by
            show Su.rv t (q + 1) = Su.rv t q
            unfold Su.rv
            by_cases c : Su.rk t 0 < q
            · rw [if_pos c, if_pos (by omega)]
            · rw [if_neg c, if_neg (by omega)]
          obtain ⟨x, hxx⟩ : ∃ x, gt (Su.sa t) q = x + 1 := ⟨gt (Su.sa t) q - 1, by omega⟩
          rw [hxx, Nat.add_sub_cancel] at EL
          rw [hxx] at e2 xle
          obtain ⟨b, off, rfl, hb0, hcc⟩ := HXb.out (by rw [← hn.out]; omega)
          have e1 := (HM.out.hb.cell (p := ⟨b, off + x, none⟩) hb0).trans (hcc x (by rw [← hn.out]; omega))
          have hne0 : (((x + 1 : Nat) : Int) == 0) = false := by simp; omega
          have hsb : Su.sg t x = gt t x := rfl
          rw [hsb] at EL
          have HM' := HM.out
          have ll : (Su.lq t q).length < n := by
            rw [Su.length_lq (by rw [← hn.out]; omega), hn.out]
            exact Su.ix_lt (Su.rw_le t) (by rw [← hn.out]; omega) hr
          have LLE : Hid ((Su.lq t (q + 1)).length = (Su.lq t q).length + 1) := by rw [EL.out, List.length_append]; rfl
          obtain ⟨k, hk⟩ : ∃ k, Hid (k = (Su.lq t q).length) := ⟨_, rfl⟩
          have hkq : k < n := by rw [hk.out]; exact ll
          have OW := HM'.ow
          rw [← hk.out, ← hn.out] at bx OW
          rw [← hk.out] at LLE
          have BR := hide HM'.hb
          have ND := hide HM'.nd
          have hxz : ((x + 1 : Nat) : Int) = (x : Int) + 1 := by omega
          rw [hxz] at e2 hne0
          obtain ⟨hi5, hz0, hz1, hz2⟩ := HI.out
          generalize gt t x = y at *
          generalize Su.rv t q = rr at *
          have wx : IntKind.i64.wrap (x : Int) = (x : Int) := by rw [IntKind.wrap_i64]; omega
          have hxn : (x : Int) < (n : Int) := by omega
          clear hri x0 hxx hcc hcc2 HM HM' ll hsb hr
          go_wp2
          refine region_g [10] (fun w' => Cel w' gb [.slice (some ⟨gl, 0, none⟩) k n, .int .i64 (rr : Nat), .slice (some ⟨gc, 0, none⟩) 257 bc] 25 ∧ w'.cell? ⟨b, off + x, none⟩ = some (.int .u8 (y : Nat))) (by kernel_rfl) ?_
          have hS : (fun w' => Cel w' gb [.slice (some ⟨gl, 0, none⟩) k n, .int .i64 (rr : Nat), .slice (some ⟨gc, 0, none⟩) 257 bc] 25 ∧ w'.cell? ⟨b, off + x, none⟩ = some (.int .u8 (y : Nat))) wr.drew := ⟨bx.drew, e1⟩
          have OWd := OW.drew
          have NDd : Nd wr.drew (some ⟨gc, 0, none⟩) (toI (Su.fs t)) := ND.out
          have BRd : Hid (Below wb.heap.size wb wr.drew) := BR.out.drew
          have gcd : gc < wr.drew.heap.size := hgcr
          clear bx e1 e2 OW BR ND
          generalize wr.drew = V at *
          refine AnyG.take 0 (v := ?vv10) rfl (by kernel_rfl) (by kernel_rfl) (by kernel_rfl) (by kernel_rfl) (fun _ _ _ h => h) hS ?hy10 (by rfl) ?rest10
          case hy10 =>
            intro w0 h0
            go_simp
            try with_reducible rfl
          simp only [Act.put, List.getElem_toArray, List.getElem_cons_zero, List.getElem_cons_succ, List.setIfInBounds_toArray, List.set_cons_zero, List.set_cons_succ]
          refine AnyG.take 1 (v := ?vv11) rfl (by kernel_rfl) (by kernel_rfl) (by kernel_rfl) (by kernel_rfl) (fun _ _ _ h => h) hS ?hy11 (by rfl) ?rest11
          case hy11 =>
            intro w0 h0
            have c3 := h0.1.cell 0 rfl
            go_simp
            try with_reducible rfl
          simp only [Act.put, List.getElem_toArray, List.getElem_cons_zero, List.getElem_cons_succ, List.setIfInBounds_toArray, List.set_cons_zero, List.set_cons_succ]
          refine AnyG.take 2 (v := ?vv12) rfl (by kernel_rfl) (by kernel_rfl) (by kernel_rfl) (by kernel_rfl) (fun _ _ _ h => h) hS ?hy12 (by rfl) ?rest12
          case hy12 =>
            intro w0 h0
            go_simp
            try with_reducible rfl
          simp only [Act.put, List.getElem_toArray, List.getElem_cons_zero, List.getElem_cons_succ, List.setIfInBounds_toArray, List.set_cons_zero, List.set_cons_succ]
          refine AnyG.take 3 (v := ?vv13) rfl (by kernel_rfl) (by kernel_rfl) (by kernel_rfl) (by kernel_rfl) (fun _ _ _ h => h) hS ?hy13 (by rfl) ?rest13
          case hy13 =>
            intro w0 h0
            go_simp
            try with_reducible rfl
          simp only [Act.put, List.getElem_toArray, List.getElem_cons_zero, List.getElem_cons_succ, List.setIfInBounds_toArray, List.set_cons_zero, List.set_cons_succ]
          refine AnyG.take 4 (v := .int .i64 (x : Int)) rfl (by kernel_rfl) (by kernel_rfl) (by kernel_rfl) (by kernel_rfl) (fun _ _ _ h => h) hS ?hyx (by rfl) ?restx
          case hyx =>
            intro w0 h0
            go_simp
          simp only [Act.put, List.getElem_toArray, List.getElem_cons_zero, List.getElem_cons_succ, List.setIfInBounds_toArray, List.set_cons_zero, List.set_cons_succ]
          refine AnyG.take 5 (v := ?vv14) rfl (by kernel_rfl) (by kernel_rfl) (by kernel_rfl) (by kernel_rfl) (fun _ _ _ h => h) hS ?hy14 (by rfl) ?rest14
          case hy14 =>
            intro w0 h0
            go_simp
            try with_reducible rfl
          simp only [Act.put, List.getElem_toArray, List.getElem_cons_zero, List.getElem_cons_succ, List.setIfInBounds_toArray, List.set_cons_zero, List.set_cons_succ]
          refine AnyG.take 6 (v := ?vv15) rfl (by kernel_rfl) (by kernel_rfl) (by kernel_rfl) (by kernel_rfl) (fun _ _ _ h => h) hS ?hy15 (by rfl) ?rest15
          case hy15 =>
            intro w0 h0
            have c3 := h0.2
            go_simp
            try with_reducible rfl
          simp only [Act.put, List.getElem_toArray, List.getElem_cons_zero, List.getElem_cons_succ, List.setIfInBounds_toArray, List.set_cons_zero, List.set_cons_succ]
          refine AnyG.one 7 (by kernel_rfl) rfl ?_
          intro K hK
          go_simp
          have hS1 : (fun w' => Cel w' gb [.slice (some ⟨gl, 0, none⟩) k n, .int .i64 (rr : Nat), .slice (some ⟨gc, 0, none⟩) 257 bc] 25 ∧ w'.cell? ⟨b, off + x, none⟩ = some (.int .u8 (y : Nat))) (V.alloc (.cells #[.int .u8 (y : Nat)] 5)) := ⟨hS.1.alloc _, ((below_alloc V _).cell (p := ⟨b, off + x, none⟩) (by have := hS.1.lt; have := BRd.out.size; show b < V.heap.size; omega)).trans hS.2⟩
          have OW1 := own_block OWd (Below.heap_alloc V (.cells #[.int .u8 (y : Nat)] 5) gl (OWd.lt gl rfl).2)
          have ND1 := NDd.keep (below_alloc V (.cells #[.int .u8 (y : Nat)] 5))
          have BR1 := hide (BRd.out.trans ((below_alloc V (.cells #[.int .u8 (y : Nat)] 5)).mono BRd.out.size))
          have T1 := Cel.new V [.int .u8 (y : Nat)] 5
          have zV : gl < V.heap.size := (OWd.lt gl rfl).2
          have zB : gb < V.heap.size := hS.1.lt
          have zC : gc < (V.alloc (.cells #[.int .u8 (y : Nat)] 5)).heap.size := by simp; omega
          refine hK.out _ _ (fun _ => hS1) ?_
          clear hK K
          try simp only [Act.put, List.getElem_toArray, List.getElem_cons_zero, List.getElem_cons_succ, List.setIfInBounds_toArray, List.set_cons_zero, List.set_cons_succ]
          refine AnyG.one 8 (by kernel_rfl) rfl ?_
          intro K hK
          refine bstep_app gl 5 i5 1 Try.underlying22 hi5 hz1 gl k n (yv (Su.lq t q)) rfl OW1 ⟨V.heap.size, 0, none⟩ 1 1 [.int .u8 (y : Nat)] rfl rfl ?d1 ?d2 (by omega) ?d6
          case d1 =>
            intro j u hj
            match j, hj with
            | 0, hj => simp at hj; subst hj; exact T1.cell 0 rfl
            | j + 1, hj => simp at hj
          case d2 => intro u hu; simp at hu; subst hu; rfl
          intro wa own_a hgr
          rw [show yv (Su.lq t q) ++ [.int .u8 (y : Nat)] = yv (Su.lq t (q + 1)) by rw [EL.out, ← yv_app]; rfl] at own_a
          have hS2 : (fun w' => Cel w' gb [.slice (some ⟨gl, 0, none⟩) k n, .int .i64 (rr : Nat), .slice (some ⟨gc, 0, none⟩) 257 bc] 25 ∧ w'.cell? ⟨b, off + x, none⟩ = some (.int .u8 (y : Nat))) wa := ⟨(hgr.block gb (by simp; omega) (by simp; omega)).trans hS1.1, hgr.cell hS1.2 (by simp; omega)⟩
          have BA : Hid (Below wb.heap.size wb wa) := BR1.out.grown hgr BR1.out.size (fun k h => by cases h; exact o2)
          have NA : Hid (Nd wa (some ⟨gc, 0, none⟩) (toI (Su.fs t))) := nd_block ND1 (hgr.block gc zC (by simp; omega)) hgr.size
          have zA : gc < wa.heap.size := Nat.lt_of_lt_of_le zC hgr.size
          refine hK.out _ _ (fun _ => hS2) ?_
          clear hK K
          try simp only [Act.put, List.getElem_toArray, List.getElem_cons_zero, List.getElem_cons_succ, List.setIfInBounds_toArray, List.set_cons_zero, List.set_cons_succ]
          refine AnyG.take 9 (v := ?vv16) rfl (by kernel_rfl) (by kernel_rfl) (by kernel_rfl) (by kernel_rfl) (fun _ _ _ h => h) hS2 ?hy16 (by rfl) ?rest16
          case hy16 =>
            intro w0 h0
            go_simp
            try with_reducible rfl
          simp only [Act.put, List.getElem_toArray, List.getElem_cons_zero, List.getElem_cons_succ, List.setIfInBounds_toArray, List.set_cons_zero, List.set_cons_succ]
          refine AnyG.one 10 (by kernel_rfl) rfl ?_
          intro K hK
          have z3 := hS2.1.cell 0 rfl
          have fz3 := hS2.1.frozen 0
          go_simp
          refine hK.out _ _ (fun h => absurd (by decide) h) ?_
          clear hK K
          try simp only [Act.put, List.getElem_toArray, List.getElem_cons_zero, List.getElem_cons_succ, List.setIfInBounds_toArray, List.set_cons_zero, List.set_cons_succ]
          refine AnyG.done (by kernel_rfl) ?_ _
          have M1 : Hid (MK wb (wa.setCell ⟨gb, 0, none⟩ (.slice (some ⟨gl, 0, none⟩) (k + 1) n)) t gb gl gc bc (q + 1)) := by
            refine ⟨?_, ?_, nd_block NA.out (Below.heap_setCell wa ⟨gb, 0, none⟩ _ gc (by show gc ≠ gb; omega)) (by simp [World.setCell]), BA.out.setCell (p := ⟨gb, 0, none⟩) o1 _⟩
            · rw [LLE.out, ER.out, ← hn.out]
              exact hS2.1.set 0 (.slice (some ⟨gl, 0, none⟩) (k + 1) n)
            · rw [LLE.out, ← hn.out]
              exact own_block own_a (Below.heap_setCell wa ⟨gb, 0, none⟩ _ gl (by show gl ≠ gb; omega))
          have zA2 : gc < (wa.setCell ⟨gb, 0, none⟩ (.slice (some ⟨gl, 0, none⟩) (k + 1) n)).heap.size := by simp [World.setCell]; omega
          clear hS2 hS1 hS own_a hgr z3 fz3 BRd OWd BA NA NDd OW1 ND1 BR1 T1
          go_wp2
          exact ⟨⟨q + 1, by omega, by go_num, M1, zA2⟩, by simp only [intOf]; omega⟩
      · obtain rfl : q = n + 1 := by omega
        have hM := HM.out
        have eL : Su.lq t (n + 1) = Su.La t := by rw [hn.out]; exact Su.lq_all t
        have eR : Su.rv t (n + 1) = Su.rk t 0 := by
          unfold Su.rv
          rw [if_pos (by have := Su.rw_le t; rw [hn.out]; omega)]
        have bx := hM.bx
        have ow := hM.ow
        rw [eL, eR, Su.length_La, ← hn.out] at bx
        rw [eL, Su.length_La, ← hn.out] at ow
        have B0r := B0b.out.kept hM.hb
        have x0 := bx.cell 0 rfl
        have x1 := bx.cell 1 rfl
        have x2 := bx.cell 2 rfl
        have y0 := B0r.cell 0 rfl
        have y1 := B0r.cell 1 rfl
        have y2 := B0r.cell 2 rfl
        have f0 := B0r.frozen 0
        have f1 := B0r.frozen 1
        have f2 := B0r.frozen 2
        have hC := ((B0r.set 0 (.slice (some ⟨gl, 0, none⟩) n n)).set 1 (.int .i64 (Su.rk t 0 : Nat))).set 2 (.slice (some ⟨gc, 0, none⟩) 257 bc)
        have oW := (((Only.refl w.heap.size wr).set 0 (.slice (some ⟨gl, 0, none⟩) n n)).set 1 (.int .i64 (Su.rk t 0 : Nat))).set 2 (.slice (some ⟨gc, 0, none⟩) 257 bc)
        have k0 := hC.cell 0 rfl
        have k1 := hC.cell 1 rfl
        have k2 := hC.cell 2 rfl
        have HFr := nd_only hM.nd oW (by omega)
        have HLr := bd_own (own_block ow (oW.block gl (by omega)))
        have HBr := HBb.out.trans ((hM.hb.mono (by omega)).trans (oW.below (Nat.le_refl _)))
        have HQ := hide (And.intro HLr (And.intro HFr HBr))
        have hgt := bx.lt
        have hwr := B0r.lt
        have hnw : gb ≠ w.heap.size := by omega
        clear HLr HFr HBr oW hC B0r bx ow hM HM eL eR
        generalize hrr0 : Su.rk t 0 = rr at *
        have hrr := hide hrr0
        clear hrr0
        go_wp2
        refine bodyPost_ret (v := .tuple #[.agg #[.slice (some ⟨gl, 0, none⟩) n n, .int .i64 (rr : Nat), .slice (some ⟨gc, 0, none⟩) 257 bc], .int .i64 0]) (by simp [results, Try.results11, go_sem, k0, k1, k2]) rfl ?_
        exact ⟨some ⟨gl, 0, none⟩, n, some ⟨gc, 0, none⟩, bc, by rw [hrr.out], HQ.out.1, Nat.le_refl _, HQ.out.2.1, hbc, HQ.out.2.2⟩
set_option maxHeartbeats 2000000 in
theorem bmake_c (ao : Option Addr) (t : List Nat) (cap : Nat) (w : World) (hx : Bd w ao t) (hb : Bytes t) (hc : t.length ≤ cap) :
    Calls Try.prog 11 #[.slice ao t.length cap] w (MakQ t w) := by
  by_cases hl : t.length ≤ 8192
  · exact bmake_in ao t cap w hx hb hc hl
  · obtain ⟨W, hW⟩ : ∃ W, W = w.alloc (.cells #[.slice none 0 0, .int .i64 0, .slice none 0 0] 25) := ⟨_, rfl⟩
    have bW : Below w.heap.size w W := by rw [hW]; exact below_alloc w _
    have B0 : Cel W w.heap.size [.slice none 0 0, .int .i64 0, .slice none 0 0] 25 := by rw [hW]; exact Cel.new w _ _
    have A1 : Hid (∀ w0, w0 = W → Calls Try.prog 17 #[.slice ao t.length cap] w0 (ArrQ t w0)) := fun w0 h => by subst h; exact sarr_c ao t cap w0 (hx.keep bW) hb hc
    unfold ArrQ at A1
    obtain ⟨m1, m2, m3⟩ := Su.mk_out hl
    unfold MakQ
    rw [m1, m2, m3, (Su.arr_out hl).2]
    rw [(Su.arr_out hl).1, (Su.arr_out hl).2] at A1
    go_enter Try.func11, Try.ntmps11
    go_wp2_with fail
    rw [← hW]
    refine (A1.out _ rfl).mono ?_
    rintro e w1 ⟨so, sc, rfl, hN, _, hb1⟩
    have HB := hide (bW.trans (hb1.mono bW.size))
    have B1 := B0.kept hb1
    have y0 := B1.cell 0 rfl
    have y1 := B1.cell 1 rfl
    have y2 := B1.cell 2 rfl
    have f0 := B1.frozen 0
    have f1 := B1.frozen 1
    have f2 := B1.frozen 2
    have hC := ((B1.set 0 (.slice none 0 0)).set 1 (.int .i64 0)).set 2 (.slice none 0 0)
    have oW := (((Only.refl w.heap.size w1).set 0 (.slice none 0 0)).set 1 (.int .i64 0)).set 2 (.slice none 0 0)
    have k0 := hC.cell 0 rfl
    have k1 := hC.cell 1 rfl
    have k2 := hC.cell 2 rfl
    have HBr := hide (HB.out.trans (oW.below (Nat.le_refl _)))
    have hwr := B1.lt
    clear hb1 hN A1 hW bW B0 B1 hC oW
    go_wp2
    refine bodyPost_ret (v := .tuple #[.agg #[.slice none 0 0, .int .i64 0, .slice none 0 0], .int .i64 4]) (by simp [results, Try.results11, go_sem, k0, k1, k2]) rfl ?_
    exact ⟨none, 0, none, 0, rfl, bd0 _ _, Nat.le_refl _, nd0 _ _, Nat.le_refl _, HBr.out⟩
end Go.Proofs.Ytojjinjgmijgcaa
