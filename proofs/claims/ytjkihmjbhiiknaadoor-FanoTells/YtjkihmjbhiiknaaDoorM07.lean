/-
  The contracts of the program's isOne, ones, sought: what is read of the places. The contract of the program's Bits.
-/
import Derived.Test.YtjkihmjbhiiknaaDoorM06
import Derived.Test.YtjkihmjbhiiknaaDoorM05
namespace Go.Proofs.YtjkihmjbhiiknaaDoor
open Go.RowKit Go.Shelf Num Bit
set_option linter.unusedVariables false
set_option linter.unusedSimpArgs false
set_option maxRecDepth 100000
attribute [local go_sem] Oper.semAt_some

theorem Wd.blk {w : World} {ao : Option Addr} {xs : List Nat} (h : Wd w ao xs) {p : Addr} (hp : ao = some p) (h0 : 0 < xs.length) : p.block < w.heap.size := by
  obtain ⟨g, off, e, hg, _⟩ := h h0
  rw [e] at hp
  cases hp
  exact hg
theorem Cel.at {w : World} {b b' : Nat} {cs : List Value} {T : TypeId} (h : Cel w b cs T) (e : b = b') : Cel w b' cs T := e ▸ h
theorem Cel.put {w : World} {b D : Nat} {cs : List Value} {T : TypeId} (h : Cel w b cs T) (o : Obj) (e : b ≠ D) : Cel (w.putObj D o) b cs T := (World.putObj_heap_other e).trans h
theorem isIn_at {l : List Nat} {n : Nat} (hr : Rise l n) (i q : Nat) (hq : q < l.length) (h1 : ∀ j, j < q → gt l j < i) (h2 : i ≤ gt l q) : isIn l i = decide (gt l q = i) := by
  by_cases c : gt l q = i
  · rw [decide_eq_true c, isIn_iff]
    exact ⟨q, hq, c⟩
  · rw [decide_eq_false c]
    refine Bool.eq_false_iff.2 fun h => ?_
    obtain ⟨j, hj, e⟩ := (isIn_iff l i).1 h
    by_cases d : j < q
    · have := h1 j d; omega
    · by_cases e2 : j = q
      · subst e2; exact c e
      · have := hr.lt (show q < j by omega) hj; omega
theorem isIn_not {l : List Nat} (i : Nat) (h1 : ∀ j, j < l.length → gt l j < i) : isIn l i = false := by
  refine Bool.eq_false_iff.2 fun h => ?_
  obtain ⟨j, hj, e⟩ := (isIn_iff l i).1 h
  have := h1 j hj
  omega

set_option maxHeartbeats 8000000 in
theorem gisOne_c (n mm kn vn hh : Nat) (LM : Int) (ao : Option Addr) (xs : List Nat) (cap : Nat) (qo : Option Addr) (ys : List Nat) (dap : Nat) (l : List Nat) (w : World) (F : Fits n mm kn vn LM xs hh ys) (hx : Wd w ao xs) (fx : Fit xs) (hy : Wd w qo ys) (fy : Fit ys) (hl : l.length = mm) (hg : ∀ q, q < mm → plq n mm xs hh ys q = gt l q) (hr : Rise l n) (i : Nat) (hi : i ≤ 1048576) :
    Calls Tryd.prog 36 #[.agg #[.int .i64 (n : Nat), .int .i64 (mm : Nat), .int .i64 (kn : Nat), .int .i64 (vn : Nat), .int .i64 LM, .slice ao xs.length cap, .int .i64 (hh : Nat), .slice qo ys.length dap], .int .i64 i] w fun e w' => e = .returned (.bool (isIn l i)) ∧ Below w.heap.size w w' := by
  refine (callsIn_wide (n := 0)).1 (callsIn_of_wp_marks Tryd.func36 rfl trivial ?_)
  simp only [Tryd.ntmps36, List.size_toArray, List.length_cons, List.length_nil, Nat.reduceAdd, Nat.reduceSub, Array.replicate_succ, Array.replicate_zero, List.push_toArray, List.append_toArray, List.nil_append, List.cons_append]
  refine wpIn_wide.2 ?_
  have PC : Hid (∀ w0, Calls Tryd.prog 45 #[.agg #[.int .i64 (n : Nat), .int .i64 (mm : Nat), .int .i64 (kn : Nat), .int .i64 (vn : Nat), .int .i64 LM, .slice ao xs.length cap, .int .i64 (hh : Nat), .slice qo ys.length dap]] w0 fun e w' => e = .returned (.func (.func 62) #[] #[.pointer (some ⟨w0.heap.size, 0, none⟩), .pointer (some ⟨w0.heap.size + 1, 0, none⟩)]) ∧ Cel w' w0.heap.size [.int .i64 (n : Nat), .int .i64 (mm : Nat), .int .i64 (kn : Nat), .int .i64 (vn : Nat), .int .i64 LM, .slice ao xs.length cap, .int .i64 (hh : Nat), .slice qo ys.length dap] 30 ∧ Cel w' (w0.heap.size + 1) [.int .i64 (wdF n mm : Nat)] 3 ∧ w'.heap.size = w0.heap.size + 2 ∧ Below w0.heap.size w0 w') := fun w0 => gplaces_c n mm kn vn hh LM ao xs cap qo ys dap F.hn F.hm w0
  obtain ⟨W1, hW1⟩ : ∃ W1, W1 = ((w.alloc (.cells #[.int .i64 (n : Nat), .int .i64 (mm : Nat), .int .i64 (kn : Nat), .int .i64 (vn : Nat), .int .i64 LM, .slice ao xs.length cap, .int .i64 (hh : Nat), .slice qo ys.length dap] 30)).alloc (.cells #[.int .i64 (i : Nat)] 3)).alloc (.cells #[.bool false] 4) := ⟨_, rfl⟩
  have z1 : W1.heap.size = w.heap.size + 3 := by rw [hW1]; simp
  have b1 : Below w.heap.size w W1 := by rw [hW1]; exact (((below_alloc w _).alloc (by simp only [World.size_alloc]; omega) _).alloc (by simp only [World.size_alloc]; omega) _)
  have c0 : Cel W1 (w.heap.size + 0) [.int .i64 (n : Nat), .int .i64 (mm : Nat), .int .i64 (kn : Nat), .int .i64 (vn : Nat), .int .i64 LM, .slice ao xs.length cap, .int .i64 (hh : Nat), .slice qo ys.length dap] 30 := by rw [hW1]; exact ((((Cel.new _ _ _).alloc _).alloc _)).at (by simp)
  have c1 : Cel W1 (w.heap.size + 1) [.int .i64 (i : Nat)] 3 := by rw [hW1]; exact (((Cel.new _ _ _).alloc _)).at (by simp)
  have c2 : Cel W1 (w.heap.size + 2) [.bool false] 4 := by rw [hW1]; exact ((Cel.new _ _ _)).at (by simp)
  go_wp2_with fail
  rw [← hW1]
  clear hW1
  refine (PC.out _).mono ?_
  rintro e w' ⟨rfl, cx, cw, z2, b2⟩
  rw [z1] at cx cw z2
  rw [z1]
  have b3 : Below w.heap.size w w' := b1.trans (b2.mono b1.size)
  replace c0 := c0.kept b2
  replace c1 := c1.kept b2
  replace c2 := c2.kept b2
  go_wp2
  clear b1 b2 PC
  have G := (places1_goes n mm kn vn hh LM ao xs cap qo ys dap (fun b => b ≠ w.heap.size + 2 ∧ b ≠ w'.heap.size + 1) w' (w.heap.size + 3) (w.heap.size + 4) F (hx.keep b3) fx (hy.keep b3) fy cx cw (by omega) (by omega) (fun p hp h0 => by have := hx.blk hp h0; omega) (fun p hp h0 => by have := hy.blk hp h0; omega)).enc (enc' := fun q => #[.int .i64 q, .int .i64 (gt l q : Nat)]) (fun q hq => by rw [hg q hq])
  refine range_law (gf := 62) (lb := #[.pointer (some ⟨w.heap.size + 3, 0, none⟩), .pointer (some ⟨w.heap.size + 4, 0, none⟩)]) (K := fun b => b ≠ w.heap.size + 2) rfl (enters_of Tryd.func62 (by kernel_rfl) rfl) (fun _ => rfl) G (fun b hb => by omega)
    (fun q Wc => Kept (fun b => b ≠ w.heap.size + 2) w' Wc ∧ Cel Wc (w.heap.size + 2) [.bool false] 4 ∧ ∀ j, j < q → gt l j < i) (fun q Wc => Kept (fun b => b ≠ w.heap.size + 2) w' Wc ∧ Cel Wc (w.heap.size + 2) [.bool (isIn l i)] 4) (fun q A B h hb => ⟨h.1.more hb (Nat.le_refl _), h.2.1.keep hb (by omega), h.2.2⟩) (fun q A B h hb => ⟨h.1.more hb (Nat.le_refl _), h.2.keep hb (by omega)⟩) ⟨Kept.refl _ _, c2, fun j hj => absurd hj (by omega)⟩
    (fun q => { tmps := #[.agg #[.int .i64 (n : Nat), .int .i64 (mm : Nat), .int .i64 (kn : Nat), .int .i64 (vn : Nat), .int .i64 LM, .slice ao xs.length cap, .int .i64 (hh : Nat), .slice qo ys.length dap], .int .i64 (i : Nat), .pointer (some ⟨w.heap.size, 0, none⟩), .pointer (some ⟨w.heap.size + 1, 0, none⟩), .pointer (some ⟨w.heap.size + 2, 0, none⟩), undef, .int .i64 (gt l q : Nat), .agg #[.int .i64 (n : Nat), .int .i64 (mm : Nat), .int .i64 (kn : Nat), .int .i64 (vn : Nat), .int .i64 LM, .slice ao xs.length cap, .int .i64 (hh : Nat), .slice qo ys.length dap], .func (.func 62) #[] #[.pointer (some ⟨w.heap.size + 3, 0, none⟩), .pointer (some ⟨w.heap.size + 4, 0, none⟩)], .int .i64 (q : Nat), .int .i64 (gt l q : Nat), undef, undef, undef, undef, undef, undef], defers := [] }) ?assign ?body ?done ?stop
  case assign =>
    intro l1 q Wc K1 hK1
    gi_wp2
    exact hK1
  case body =>
    rintro l1 q Wc hq ⟨hk, cR, hlt⟩ hz
    have cI := (hk.cel c1 (by omega)).cell 0 rfl
    have r0 := cR.cell 0 rfl
    have r1 := cR.frozen 0
    clear G
    have HV := hide9' (isIn_at hr i q (by omega) hlt)
    by_cases hge : i ≤ gt l q
    · have hge2 : (i : Int) ≤ (gt l q : Int) := by omega
      have HX : Hid (Kept (fun b => b ≠ w.heap.size + 2) Wc (Wc.setCell ⟨w.heap.size + 2, 0, none⟩ (.bool (isIn l i))) ∧ Kept (fun b => b ≠ w.heap.size + 2) w' (Wc.setCell ⟨w.heap.size + 2, 0, none⟩ (.bool (isIn l i))) ∧ Cel (Wc.setCell ⟨w.heap.size + 2, 0, none⟩ (.bool (isIn l i))) (w.heap.size + 2) [.bool (isIn l i)] 4) := ⟨(Kept.refl _ _).setCell (fun h => h rfl) _, hk.setCell (fun h => h rfl) _, cR.set 0 _⟩
      rw [HV.out hge] at HX
      rw [show decide (gt l q = i) = ((gt l q : Int) == (i : Int)) by rw [Bool.eq_iff_iff]; simp; omega] at HX
      gi_wp2
      refine ⟨HX.out.1, HX.out.2.1, ?_⟩
      rw [HV.out hge, show decide (gt l q = i) = ((gt l q : Int) == (i : Int)) by rw [Bool.eq_iff_iff]; simp; omega]
      exact HX.out.2.2
    · have hge2 : ¬ (i : Int) ≤ (gt l q : Int) := by omega
      gi_wp2
      exact ⟨Kept.refl _ _, hk, cR, fun j hj => by
        by_cases e : j = q
        · subst e; omega
        · exact hlt j (by omega)⟩
  case done =>
    rintro D Wc hD ⟨hk, cR, hlt⟩ hd
    have r0 := cR.cell 0 rfl
    have r1 := cR.frozen 0
    have hB := hide9' ((hk.below (B := w.heap.size) (fun x h => by omega) (by omega)))
    have HE := hide9' (isIn_not (l := l) i (fun j hj => hlt j (by omega)))
    have hb := hide9' (hB.out.setCell (p := ⟨w.heap.size + 2, 0, none⟩) (show w.heap.size ≤ w.heap.size + 2 by omega) (.bool false))
    have cS := hide9' (cR.set 0 (.bool false))
    have hd2 := hide9' ((Below.heap_setCell Wc ⟨w.heap.size + 2, 0, none⟩ (.bool false) D (show D ≠ w.heap.size + 2 by omega)).trans hd)
    clear hd hk
    go_wp2
    have cR2 := (cS.out.put (.deferred none) (show w.heap.size + 2 ≠ D by omega)).cell 0 rfl
    exact marks_ret hd2.out (v := .bool (isIn l i)) (by rw [HE.out]; simp [results, Tryd.results36, go_sem, cR2]) ⟨rfl, b3.trans (hb.out.trans (below_putObj (by omega) _))⟩
  case stop =>
    rintro D q Wc hD hq ⟨hk, cR⟩ hd
    go_wp2
    have cR2 := (cR.put (.deferred none) (show w.heap.size + 2 ≠ D by omega)).cell 0 rfl
    exact marks_ret hd (v := .bool (isIn l i)) (by simp [results, Tryd.results36, go_sem, cR2]) ⟨rfl, b3.trans ((hk.below (fun x h => by omega) (by omega)).trans (below_putObj (by omega) _))⟩

/-- How many places are below i. -/
structure Cut (l : List Nat) (i c : Nat) : Prop where
  le : c ≤ l.length
  lo : ∀ j, j < c → gt l j < i
  hi : ∀ j, c ≤ j → j < l.length → i ≤ gt l j
theorem Cut.eq {l : List Nat} {i c q : Nat} (h : Cut l i c) (hq : q ≤ l.length) (h1 : ∀ j, j < q → gt l j < i) (h2 : q < l.length → i ≤ gt l q) : c = q := by
  by_cases a : c < q
  · have := h1 c a
    have := h.hi c (Nat.le_refl _) (by omega)
    omega
  · by_cases b : q < c
    · have := h.lo q b
      have := h.le
      have := h2 (by omega)
      omega
    · omega

set_option maxHeartbeats 8000000 in
theorem gones_c (n mm kn vn hh : Nat) (LM : Int) (ao : Option Addr) (xs : List Nat) (cap : Nat) (qo : Option Addr) (ys : List Nat) (dap : Nat) (l : List Nat) (w : World) (F : Fits n mm kn vn LM xs hh ys) (hx : Wd w ao xs) (fx : Fit xs) (hy : Wd w qo ys) (fy : Fit ys) (hl : l.length = mm) (hg : ∀ q, q < mm → plq n mm xs hh ys q = gt l q) (hr : Rise l n) (i : Nat) (hi : i ≤ 1048576) (c : Nat) (hc : Cut l i c) :
    Calls Tryd.prog 35 #[.agg #[.int .i64 (n : Nat), .int .i64 (mm : Nat), .int .i64 (kn : Nat), .int .i64 (vn : Nat), .int .i64 LM, .slice ao xs.length cap, .int .i64 (hh : Nat), .slice qo ys.length dap], .int .i64 i] w fun e w' => e = .returned (.int .i64 c) ∧ Below w.heap.size w w' := by
  refine (callsIn_wide (n := 0)).1 (callsIn_of_wp_marks Tryd.func35 rfl trivial ?_)
  simp only [Tryd.ntmps35, List.size_toArray, List.length_cons, List.length_nil, Nat.reduceAdd, Nat.reduceSub, Array.replicate_succ, Array.replicate_zero, List.push_toArray, List.append_toArray, List.nil_append, List.cons_append]
  refine wpIn_wide.2 ?_
  have PC : Hid (∀ w0, Calls Tryd.prog 45 #[.agg #[.int .i64 (n : Nat), .int .i64 (mm : Nat), .int .i64 (kn : Nat), .int .i64 (vn : Nat), .int .i64 LM, .slice ao xs.length cap, .int .i64 (hh : Nat), .slice qo ys.length dap]] w0 fun e w' => e = .returned (.func (.func 62) #[] #[.pointer (some ⟨w0.heap.size, 0, none⟩), .pointer (some ⟨w0.heap.size + 1, 0, none⟩)]) ∧ Cel w' w0.heap.size [.int .i64 (n : Nat), .int .i64 (mm : Nat), .int .i64 (kn : Nat), .int .i64 (vn : Nat), .int .i64 LM, .slice ao xs.length cap, .int .i64 (hh : Nat), .slice qo ys.length dap] 30 ∧ Cel w' (w0.heap.size + 1) [.int .i64 (wdF n mm : Nat)] 3 ∧ w'.heap.size = w0.heap.size + 2 ∧ Below w0.heap.size w0 w') := fun w0 => gplaces_c n mm kn vn hh LM ao xs cap qo ys dap F.hn F.hm w0
  obtain ⟨W1, hW1⟩ : ∃ W1, W1 = ((w.alloc (.cells #[.int .i64 (n : Nat), .int .i64 (mm : Nat), .int .i64 (kn : Nat), .int .i64 (vn : Nat), .int .i64 LM, .slice ao xs.length cap, .int .i64 (hh : Nat), .slice qo ys.length dap] 30)).alloc (.cells #[.int .i64 (i : Nat)] 3)).alloc (.cells #[.int .i64 0] 3) := ⟨_, rfl⟩
  have z1 : W1.heap.size = w.heap.size + 3 := by rw [hW1]; simp
  have b1 : Below w.heap.size w W1 := by rw [hW1]; exact (((below_alloc w _).alloc (by simp only [World.size_alloc]; omega) _).alloc (by simp only [World.size_alloc]; omega) _)
  have c0 : Cel W1 (w.heap.size + 0) [.int .i64 (n : Nat), .int .i64 (mm : Nat), .int .i64 (kn : Nat), .int .i64 (vn : Nat), .int .i64 LM, .slice ao xs.length cap, .int .i64 (hh : Nat), .slice qo ys.length dap] 30 := by rw [hW1]; exact ((((Cel.new _ _ _).alloc _).alloc _)).at (by simp)
  have c1 : Cel W1 (w.heap.size + 1) [.int .i64 (i : Nat)] 3 := by rw [hW1]; exact (((Cel.new _ _ _).alloc _)).at (by simp)
  have c2 : Cel W1 (w.heap.size + 2) [.int .i64 0] 3 := by rw [hW1]; exact ((Cel.new _ _ _)).at (by simp)
  go_wp2_with fail
  rw [← hW1]
  clear hW1
  refine (PC.out _).mono ?_
  rintro e w' ⟨rfl, cx, cw, z2, b2⟩
  rw [z1] at cx cw z2
  rw [z1]
  have b3 : Below w.heap.size w w' := b1.trans (b2.mono b1.size)
  replace c0 := c0.kept b2
  replace c1 := c1.kept b2
  replace c2 := c2.kept b2
  go_wp2
  clear b1 b2 PC
  have G := (places1_goes n mm kn vn hh LM ao xs cap qo ys dap (fun b => b ≠ w.heap.size + 2 ∧ b ≠ w'.heap.size + 1) w' (w.heap.size + 3) (w.heap.size + 4) F (hx.keep b3) fx (hy.keep b3) fy cx cw (by omega) (by omega) (fun p hp h0 => by have := hx.blk hp h0; omega) (fun p hp h0 => by have := hy.blk hp h0; omega)).enc (enc' := fun q => #[.int .i64 q, .int .i64 (gt l q : Nat)]) (fun q hq => by rw [hg q hq])
  refine range_law (gf := 62) (lb := #[.pointer (some ⟨w.heap.size + 3, 0, none⟩), .pointer (some ⟨w.heap.size + 4, 0, none⟩)]) (K := fun b => b ≠ w.heap.size + 2) rfl (enters_of Tryd.func62 (by kernel_rfl) rfl) (fun _ => rfl) G (fun b hb => by omega)
    (fun q Wc => Kept (fun b => b ≠ w.heap.size + 2) w' Wc ∧ Cel Wc (w.heap.size + 2) [.int .i64 0] 3 ∧ ∀ j, j < q → gt l j < i) (fun q Wc => Kept (fun b => b ≠ w.heap.size + 2) w' Wc ∧ Cel Wc (w.heap.size + 2) [.int .i64 (c : Nat)] 3) (fun q A B h hb => ⟨h.1.more hb (Nat.le_refl _), h.2.1.keep hb (by omega), h.2.2⟩) (fun q A B h hb => ⟨h.1.more hb (Nat.le_refl _), h.2.keep hb (by omega)⟩) ⟨Kept.refl _ _, c2, fun j hj => absurd hj (by omega)⟩
    (fun q => { tmps := #[.agg #[.int .i64 (n : Nat), .int .i64 (mm : Nat), .int .i64 (kn : Nat), .int .i64 (vn : Nat), .int .i64 LM, .slice ao xs.length cap, .int .i64 (hh : Nat), .slice qo ys.length dap], .int .i64 (i : Nat), .pointer (some ⟨w.heap.size, 0, none⟩), .pointer (some ⟨w.heap.size + 1, 0, none⟩), .pointer (some ⟨w.heap.size + 2, 0, none⟩), .int .i64 (q : Nat), .int .i64 (gt l q : Nat), .agg #[.int .i64 (n : Nat), .int .i64 (mm : Nat), .int .i64 (kn : Nat), .int .i64 (vn : Nat), .int .i64 LM, .slice ao xs.length cap, .int .i64 (hh : Nat), .slice qo ys.length dap], .func (.func 62) #[] #[.pointer (some ⟨w.heap.size + 3, 0, none⟩), .pointer (some ⟨w.heap.size + 4, 0, none⟩)], .int .i64 (q : Nat), .int .i64 (gt l q : Nat), undef, undef, undef, undef, undef, undef], defers := [] }) ?assign ?body ?done ?stop
  case assign =>
    intro l1 q Wc K1 hK1
    gi_wp2
    exact hK1
  case body =>
    rintro l1 q Wc hq ⟨hk, cR, hlt⟩ hz
    have cI := (hk.cel c1 (by omega)).cell 0 rfl
    have r0 := cR.cell 0 rfl
    have r1 := cR.frozen 0
    clear G
    by_cases hge : i ≤ gt l q
    · have hge2 : (i : Int) ≤ (gt l q : Int) := by omega
      obtain rfl : c = q := hc.eq (by omega) hlt (fun _ => hge)
      have HX : Hid (Kept (fun b => b ≠ w.heap.size + 2) Wc (Wc.setCell ⟨w.heap.size + 2, 0, none⟩ (.int .i64 (c : Nat))) ∧ Kept (fun b => b ≠ w.heap.size + 2) w' (Wc.setCell ⟨w.heap.size + 2, 0, none⟩ (.int .i64 (c : Nat))) ∧ Cel (Wc.setCell ⟨w.heap.size + 2, 0, none⟩ (.int .i64 (c : Nat))) (w.heap.size + 2) [.int .i64 (c : Nat)] 3) := ⟨(Kept.refl _ _).setCell (fun h => h rfl) _, hk.setCell (fun h => h rfl) _, cR.set 0 _⟩
      gi_wp2
      exact HX.out
    · have hge2 : ¬ (i : Int) ≤ (gt l q : Int) := by omega
      gi_wp2
      exact ⟨Kept.refl _ _, hk, cR, fun j hj => by
        by_cases e : j = q
        · subst e; omega
        · exact hlt j (by omega)⟩
  case done =>
    rintro D Wc hD ⟨hk, cR, hlt⟩ hd
    have r0 := cR.cell 0 rfl
    have r1 := cR.frozen 0
    have hB := hide9' ((hk.below (B := w.heap.size) (fun x h => by omega) (by omega)))
    have HE := hide9' (hc.eq (q := mm) (by omega) hlt (fun h => absurd h (by omega)))
    have m1 := (hk.cel c0 (by omega)).cell 1 rfl
    rw [Nat.add_zero] at m1
    have hb := hide9' (hB.out.setCell (p := ⟨w.heap.size + 2, 0, none⟩) (show w.heap.size ≤ w.heap.size + 2 by omega) (.int .i64 (mm : Nat)))
    have cS := hide9' (cR.set 0 (.int .i64 (mm : Nat)))
    have hd2 := hide9' ((Below.heap_setCell Wc ⟨w.heap.size + 2, 0, none⟩ (.int .i64 (mm : Nat)) D (show D ≠ w.heap.size + 2 by omega)).trans hd)
    clear hd hk
    go_wp2
    have cR2 := (cS.out.put (.deferred none) (show w.heap.size + 2 ≠ D by omega)).cell 0 rfl
    exact marks_ret hd2.out (v := .int .i64 (mm : Nat)) (by simp [results, Tryd.results35, go_sem, cR2]) ⟨by rw [HE.out], b3.trans (hb.out.trans (below_putObj (by omega) _))⟩
  case stop =>
    rintro D q Wc hD hq ⟨hk, cR⟩ hd
    go_wp2
    have cR2 := (cR.put (.deferred none) (show w.heap.size + 2 ≠ D by omega)).cell 0 rfl
    exact marks_ret hd (v := .int .i64 (c : Nat)) (by simp [results, Tryd.results35, go_sem, cR2]) ⟨rfl, b3.trans ((hk.below (fun x h => by omega) (by omega)).trans (below_putObj (by omega) _))⟩

/-- How many places stand ahead of the bit that is 0 and has k such ahead. -/
structure CutZ (l : List Nat) (k c : Nat) : Prop where
  le : c ≤ l.length
  lo : ∀ j, j < c → gt l j - j ≤ k
  hi : c < l.length → k < gt l c - c
theorem CutZ.eq {l : List Nat} {k c q : Nat} (h : CutZ l k c) (hq : q ≤ l.length) (h1 : ∀ j, j < q → gt l j - j ≤ k) (h2 : q < l.length → k < gt l q - q) : c = q := by
  by_cases a : c < q
  · have := h1 c a
    have := h.hi (by omega)
    omega
  · by_cases b : q < c
    · have := h.lo q b
      have := h.le
      have := h2 (by omega)
      omega
    · omega

set_option maxHeartbeats 8000000 in
theorem gsought1_c (n mm kn vn hh : Nat) (LM : Int) (ao : Option Addr) (xs : List Nat) (cap : Nat) (qo : Option Addr) (ys : List Nat) (dap : Nat) (l : List Nat) (w : World) (F : Fits n mm kn vn LM xs hh ys) (hx : Wd w ao xs) (fx : Fit xs) (hy : Wd w qo ys) (fy : Fit ys) (hl : l.length = mm) (hg : ∀ q, q < mm → plq n mm xs hh ys q = gt l q) (hr : Rise l n) (k : Nat) (hk0 : k < mm) :
    Calls Tryd.prog 43 #[.agg #[.int .i64 (n : Nat), .int .i64 (mm : Nat), .int .i64 (kn : Nat), .int .i64 (vn : Nat), .int .i64 LM, .slice ao xs.length cap, .int .i64 (hh : Nat), .slice qo ys.length dap], .bool true, .int .i64 k] w fun e w' => e = .returned (.int .i64 (gt l k : Nat)) ∧ Below w.heap.size w w' := by
  have nl := F.hn
  have ml := F.hm
  refine (callsIn_wide (n := 0)).1 (callsIn_of_wp_marks Tryd.func43 rfl trivial ?_)
  simp only [Tryd.ntmps43, List.size_toArray, List.length_cons, List.length_nil, Nat.reduceAdd, Nat.reduceSub, Array.replicate_succ, Array.replicate_zero, List.push_toArray, List.append_toArray, List.nil_append, List.cons_append]
  refine wpIn_wide.2 ?_
  have PC : Hid (∀ w0, Calls Tryd.prog 45 #[.agg #[.int .i64 (n : Nat), .int .i64 (mm : Nat), .int .i64 (kn : Nat), .int .i64 (vn : Nat), .int .i64 LM, .slice ao xs.length cap, .int .i64 (hh : Nat), .slice qo ys.length dap]] w0 fun e w' => e = .returned (.func (.func 62) #[] #[.pointer (some ⟨w0.heap.size, 0, none⟩), .pointer (some ⟨w0.heap.size + 1, 0, none⟩)]) ∧ Cel w' w0.heap.size [.int .i64 (n : Nat), .int .i64 (mm : Nat), .int .i64 (kn : Nat), .int .i64 (vn : Nat), .int .i64 LM, .slice ao xs.length cap, .int .i64 (hh : Nat), .slice qo ys.length dap] 30 ∧ Cel w' (w0.heap.size + 1) [.int .i64 (wdF n mm : Nat)] 3 ∧ w'.heap.size = w0.heap.size + 2 ∧ Below w0.heap.size w0 w') := fun w0 => gplaces_c n mm kn vn hh LM ao xs cap qo ys dap F.hn F.hm w0
  obtain ⟨W1, hW1⟩ : ∃ W1, W1 = (((w.alloc (.cells #[.int .i64 (n : Nat), .int .i64 (mm : Nat), .int .i64 (kn : Nat), .int .i64 (vn : Nat), .int .i64 LM, .slice ao xs.length cap, .int .i64 (hh : Nat), .slice qo ys.length dap] 30)).alloc (.cells #[.bool true] 4)).alloc (.cells #[.int .i64 (k : Nat)] 3)).alloc (.cells #[.int .i64 0] 3) := ⟨_, rfl⟩
  have z1 : W1.heap.size = w.heap.size + 4 := by rw [hW1]; simp
  have b1 : Below w.heap.size w W1 := by rw [hW1]; exact ((((below_alloc w _).alloc (by simp only [World.size_alloc]; omega) _).alloc (by simp only [World.size_alloc]; omega) _).alloc (by simp only [World.size_alloc]; omega) _)
  have c0 : Cel W1 (w.heap.size + 0) [.int .i64 (n : Nat), .int .i64 (mm : Nat), .int .i64 (kn : Nat), .int .i64 (vn : Nat), .int .i64 LM, .slice ao xs.length cap, .int .i64 (hh : Nat), .slice qo ys.length dap] 30 := by rw [hW1]; exact (((((Cel.new _ _ _).alloc _).alloc _).alloc _)).at (by simp)
  have c1 : Cel W1 (w.heap.size + 1) [.bool true] 4 := by rw [hW1]; exact ((((Cel.new _ _ _).alloc _).alloc _)).at (by simp)
  have c2 : Cel W1 (w.heap.size + 2) [.int .i64 (k : Nat)] 3 := by rw [hW1]; exact (((Cel.new _ _ _).alloc _)).at (by simp)
  have c3 : Cel W1 (w.heap.size + 3) [.int .i64 0] 3 := by rw [hW1]; exact ((Cel.new _ _ _)).at (by simp)
  go_wp2_with fail
  rw [← hW1]
  clear hW1
  refine (PC.out _).mono ?_
  rintro e w' ⟨rfl, cx, cw, z2, b2⟩
  rw [z1] at cx cw z2
  rw [z1]
  have b3 : Below w.heap.size w w' := b1.trans (b2.mono b1.size)
  replace c0 := c0.kept b2
  replace c1 := c1.kept b2
  replace c2 := c2.kept b2
  replace c3 := c3.kept b2
  go_wp2
  clear b1 b2 PC
  have G := (places1_goes n mm kn vn hh LM ao xs cap qo ys dap (fun b => b ≠ w.heap.size + 3 ∧ b ≠ w'.heap.size + 1) w' (w.heap.size + 4) (w.heap.size + 5) F (hx.keep b3) fx (hy.keep b3) fy cx cw (by omega) (by omega) (fun p hp h0 => by have := hx.blk hp h0; omega) (fun p hp h0 => by have := hy.blk hp h0; omega)).enc (enc' := fun q => #[.int .i64 q, .int .i64 (gt l q : Nat)]) (fun q hq => by rw [hg q hq])
  refine range_law (gf := 62) (lb := #[.pointer (some ⟨w.heap.size + 4, 0, none⟩), .pointer (some ⟨w.heap.size + 5, 0, none⟩)]) (K := fun b => b ≠ w.heap.size + 3) rfl (enters_of Tryd.func62 (by kernel_rfl) rfl) (fun _ => rfl) G (fun b hb => by omega)
    (fun q Wc => Kept (fun b => b ≠ w.heap.size + 3) w' Wc ∧ Cel Wc (w.heap.size + 3) [.int .i64 0] 3 ∧ (q ≤ k)) (fun q Wc => Kept (fun b => b ≠ w.heap.size + 3) w' Wc ∧ Cel Wc (w.heap.size + 3) [.int .i64 (gt l k : Nat)] 3) (fun q A B h hb => ⟨h.1.more hb (Nat.le_refl _), h.2.1.keep hb (by omega), h.2.2⟩) (fun q A B h hb => ⟨h.1.more hb (Nat.le_refl _), h.2.keep hb (by omega)⟩) ⟨Kept.refl _ _, c3, by omega⟩
    (fun q => { tmps := #[.agg #[.int .i64 (n : Nat), .int .i64 (mm : Nat), .int .i64 (kn : Nat), .int .i64 (vn : Nat), .int .i64 LM, .slice ao xs.length cap, .int .i64 (hh : Nat), .slice qo ys.length dap], .bool true, .int .i64 (k : Nat), .pointer (some ⟨w.heap.size, 0, none⟩), .pointer (some ⟨w.heap.size + 1, 0, none⟩), .pointer (some ⟨w.heap.size + 2, 0, none⟩), .pointer (some ⟨w.heap.size + 3, 0, none⟩), .int .i64 (q : Nat), .int .i64 (gt l q : Nat), .agg #[.int .i64 (n : Nat), .int .i64 (mm : Nat), .int .i64 (kn : Nat), .int .i64 (vn : Nat), .int .i64 LM, .slice ao xs.length cap, .int .i64 (hh : Nat), .slice qo ys.length dap], .func (.func 62) #[] #[.pointer (some ⟨w.heap.size + 4, 0, none⟩), .pointer (some ⟨w.heap.size + 5, 0, none⟩)], .int .i64 (q : Nat), .int .i64 (gt l q : Nat), undef, undef, undef, undef, undef, undef, undef, undef, undef, undef, undef, undef, undef, undef, undef, undef, undef, undef, undef, undef, undef, undef, undef], defers := [] }) ?assign ?body ?done ?stop
  case assign =>
    intro l1 q Wc K1 hK1
    gi_wp2
    exact hK1
  case body =>
    rintro l1 q Wc hq ⟨hk, cR, hlt⟩ hz
    have cI := (hk.cel c1 (by omega)).cell 0 rfl
    have cJ := (hk.cel c2 (by omega)).cell 0 rfl
    have r0 := cR.cell 0 rfl
    have r1 := cR.frozen 0
    clear G
    by_cases hge : q = k
    · have hge2 : ((q : Int) == (k : Int)) = true := by simp; omega
      obtain rfl := hge
      have HX : Hid (Kept (fun b => b ≠ w.heap.size + 3) Wc (Wc.setCell ⟨w.heap.size + 3, 0, none⟩ (.int .i64 (gt l q : Nat))) ∧ Kept (fun b => b ≠ w.heap.size + 3) w' (Wc.setCell ⟨w.heap.size + 3, 0, none⟩ (.int .i64 (gt l q : Nat))) ∧ Cel (Wc.setCell ⟨w.heap.size + 3, 0, none⟩ (.int .i64 (gt l q : Nat))) (w.heap.size + 3) [.int .i64 (gt l q : Nat)] 3) := ⟨(Kept.refl _ _).setCell (fun h => h rfl) _, hk.setCell (fun h => h rfl) _, cR.set 0 _⟩
      gi_wp2
      exact HX.out
    · have hge2 : ((q : Int) == (k : Int)) = false := by simp; omega
      gi_wp2
      exact ⟨Kept.refl _ _, hk, cR, by omega⟩
  case done =>
    rintro D Wc hD ⟨hk, cR, hlt⟩ hd
    exact absurd hk0 (by omega)
  case stop =>
    rintro D q Wc hD hq ⟨hk, cR⟩ hd
    go_wp2
    have cR2 := (cR.put (.deferred none) (show w.heap.size + 3 ≠ D by omega)).cell 0 rfl
    exact marks_ret hd (v := .int .i64 (gt l k : Nat)) (by simp [results, Tryd.results43, go_sem, cR2]) ⟨rfl, b3.trans ((hk.below (fun x h => by omega) (by omega)).trans (below_putObj (by omega) _))⟩

set_option maxHeartbeats 8000000 in
theorem gsought0_c (n mm kn vn hh : Nat) (LM : Int) (ao : Option Addr) (xs : List Nat) (cap : Nat) (qo : Option Addr) (ys : List Nat) (dap : Nat) (l : List Nat) (w : World) (F : Fits n mm kn vn LM xs hh ys) (hx : Wd w ao xs) (fx : Fit xs) (hy : Wd w qo ys) (fy : Fit ys) (hl : l.length = mm) (hg : ∀ q, q < mm → plq n mm xs hh ys q = gt l q) (hr : Rise l n) (k : Nat) (hkn : k ≤ 1048576) (c : Nat) (hc : CutZ l k c) :
    Calls Tryd.prog 43 #[.agg #[.int .i64 (n : Nat), .int .i64 (mm : Nat), .int .i64 (kn : Nat), .int .i64 (vn : Nat), .int .i64 LM, .slice ao xs.length cap, .int .i64 (hh : Nat), .slice qo ys.length dap], .bool false, .int .i64 k] w fun e w' => e = .returned (.int .i64 ((k + c : Nat) : Int)) ∧ Below w.heap.size w w' := by
  have nl := F.hn
  have ml := F.hm
  refine (callsIn_wide (n := 0)).1 (callsIn_of_wp_marks Tryd.func43 rfl trivial ?_)
  simp only [Tryd.ntmps43, List.size_toArray, List.length_cons, List.length_nil, Nat.reduceAdd, Nat.reduceSub, Array.replicate_succ, Array.replicate_zero, List.push_toArray, List.append_toArray, List.nil_append, List.cons_append]
  refine wpIn_wide.2 ?_
  have PC : Hid (∀ w0, Calls Tryd.prog 45 #[.agg #[.int .i64 (n : Nat), .int .i64 (mm : Nat), .int .i64 (kn : Nat), .int .i64 (vn : Nat), .int .i64 LM, .slice ao xs.length cap, .int .i64 (hh : Nat), .slice qo ys.length dap]] w0 fun e w' => e = .returned (.func (.func 62) #[] #[.pointer (some ⟨w0.heap.size, 0, none⟩), .pointer (some ⟨w0.heap.size + 1, 0, none⟩)]) ∧ Cel w' w0.heap.size [.int .i64 (n : Nat), .int .i64 (mm : Nat), .int .i64 (kn : Nat), .int .i64 (vn : Nat), .int .i64 LM, .slice ao xs.length cap, .int .i64 (hh : Nat), .slice qo ys.length dap] 30 ∧ Cel w' (w0.heap.size + 1) [.int .i64 (wdF n mm : Nat)] 3 ∧ w'.heap.size = w0.heap.size + 2 ∧ Below w0.heap.size w0 w') := fun w0 => gplaces_c n mm kn vn hh LM ao xs cap qo ys dap F.hn F.hm w0
  obtain ⟨W1, hW1⟩ : ∃ W1, W1 = (((w.alloc (.cells #[.int .i64 (n : Nat), .int .i64 (mm : Nat), .int .i64 (kn : Nat), .int .i64 (vn : Nat), .int .i64 LM, .slice ao xs.length cap, .int .i64 (hh : Nat), .slice qo ys.length dap] 30)).alloc (.cells #[.bool false] 4)).alloc (.cells #[.int .i64 (k : Nat)] 3)).alloc (.cells #[.int .i64 0] 3) := ⟨_, rfl⟩
  have z1 : W1.heap.size = w.heap.size + 4 := by rw [hW1]; simp
  have b1 : Below w.heap.size w W1 := by rw [hW1]; exact ((((below_alloc w _).alloc (by simp only [World.size_alloc]; omega) _).alloc (by simp only [World.size_alloc]; omega) _).alloc (by simp only [World.size_alloc]; omega) _)
  have c0 : Cel W1 (w.heap.size + 0) [.int .i64 (n : Nat), .int .i64 (mm : Nat), .int .i64 (kn : Nat), .int .i64 (vn : Nat), .int .i64 LM, .slice ao xs.length cap, .int .i64 (hh : Nat), .slice qo ys.length dap] 30 := by rw [hW1]; exact (((((Cel.new _ _ _).alloc _).alloc _).alloc _)).at (by simp)
  have c1 : Cel W1 (w.heap.size + 1) [.bool false] 4 := by rw [hW1]; exact ((((Cel.new _ _ _).alloc _).alloc _)).at (by simp)
  have c2 : Cel W1 (w.heap.size + 2) [.int .i64 (k : Nat)] 3 := by rw [hW1]; exact (((Cel.new _ _ _).alloc _)).at (by simp)
  have c3 : Cel W1 (w.heap.size + 3) [.int .i64 0] 3 := by rw [hW1]; exact ((Cel.new _ _ _)).at (by simp)
  go_wp2_with fail
  rw [← hW1]
  clear hW1
  refine (PC.out _).mono ?_
  rintro e w' ⟨rfl, cx, cw, z2, b2⟩
  rw [z1] at cx cw z2
  rw [z1]
  have b3 : Below w.heap.size w w' := b1.trans (b2.mono b1.size)
  replace c0 := c0.kept b2
  replace c1 := c1.kept b2
  replace c2 := c2.kept b2
  replace c3 := c3.kept b2
  go_wp2
  clear b1 b2 PC
  have G := (places1_goes n mm kn vn hh LM ao xs cap qo ys dap (fun b => b ≠ w.heap.size + 3 ∧ b ≠ w'.heap.size + 1) w' (w.heap.size + 4) (w.heap.size + 5) F (hx.keep b3) fx (hy.keep b3) fy cx cw (by omega) (by omega) (fun p hp h0 => by have := hx.blk hp h0; omega) (fun p hp h0 => by have := hy.blk hp h0; omega)).enc (enc' := fun q => #[.int .i64 q, .int .i64 (gt l q : Nat)]) (fun q hq => by rw [hg q hq])
  refine range_law (gf := 62) (lb := #[.pointer (some ⟨w.heap.size + 4, 0, none⟩), .pointer (some ⟨w.heap.size + 5, 0, none⟩)]) (K := fun b => b ≠ w.heap.size + 3) rfl (enters_of Tryd.func62 (by kernel_rfl) rfl) (fun _ => rfl) G (fun b hb => by omega)
    (fun q Wc => Kept (fun b => b ≠ w.heap.size + 3) w' Wc ∧ Cel Wc (w.heap.size + 3) [.int .i64 0] 3 ∧ (∀ j, j < q → gt l j - j ≤ k)) (fun q Wc => Kept (fun b => b ≠ w.heap.size + 3) w' Wc ∧ Cel Wc (w.heap.size + 3) [.int .i64 ((k + c : Nat) : Int)] 3) (fun q A B h hb => ⟨h.1.more hb (Nat.le_refl _), h.2.1.keep hb (by omega), h.2.2⟩) (fun q A B h hb => ⟨h.1.more hb (Nat.le_refl _), h.2.keep hb (by omega)⟩) ⟨Kept.refl _ _, c3, fun j hj => absurd hj (by omega)⟩
    (fun q => { tmps := #[.agg #[.int .i64 (n : Nat), .int .i64 (mm : Nat), .int .i64 (kn : Nat), .int .i64 (vn : Nat), .int .i64 LM, .slice ao xs.length cap, .int .i64 (hh : Nat), .slice qo ys.length dap], .bool false, .int .i64 (k : Nat), .pointer (some ⟨w.heap.size, 0, none⟩), .pointer (some ⟨w.heap.size + 1, 0, none⟩), .pointer (some ⟨w.heap.size + 2, 0, none⟩), .pointer (some ⟨w.heap.size + 3, 0, none⟩), .int .i64 (q : Nat), .int .i64 (gt l q : Nat), .agg #[.int .i64 (n : Nat), .int .i64 (mm : Nat), .int .i64 (kn : Nat), .int .i64 (vn : Nat), .int .i64 LM, .slice ao xs.length cap, .int .i64 (hh : Nat), .slice qo ys.length dap], .func (.func 62) #[] #[.pointer (some ⟨w.heap.size + 4, 0, none⟩), .pointer (some ⟨w.heap.size + 5, 0, none⟩)], .int .i64 (q : Nat), .int .i64 (gt l q : Nat), undef, undef, undef, undef, undef, undef, undef, undef, undef, undef, undef, undef, undef, undef, undef, undef, undef, undef, undef, undef, undef, undef, undef], defers := [] }) ?assign ?body ?done ?stop
  case assign =>
    intro l1 q Wc K1 hK1
    gi_wp2
    exact hK1
  case body =>
    rintro l1 q Wc hq ⟨hk, cR, hlt⟩ hz
    have cI := (hk.cel c1 (by omega)).cell 0 rfl
    have cJ := (hk.cel c2 (by omega)).cell 0 rfl
    have r0 := cR.cell 0 rfl
    have r1 := cR.frozen 0
    clear G
    have hst := hr.step q 0 (by omega)
    rw [Nat.zero_add] at hst
    have hln := hr.1 q (by omega)
    obtain ⟨d, hd⟩ : ∃ d, Hid (d = gt l q - q) := ⟨_, rfl⟩
    have hd2 : (gt l q : Int) - (q : Int) = (d : Int) := by rw [hd.out]; omega
    have dl : d ≤ 1048576 := by rw [hd.out]; omega
    by_cases hge : k < d
    · have hge2 : (k : Int) < (d : Int) := by omega
      obtain rfl : c = q := hc.eq (by omega) hlt (fun _ => by rw [← hd.out]; exact hge)
      have HX : Hid (Kept (fun b => b ≠ w.heap.size + 3) Wc (Wc.setCell ⟨w.heap.size + 3, 0, none⟩ (.int .i64 ((k + c : Nat) : Int))) ∧ Kept (fun b => b ≠ w.heap.size + 3) w' (Wc.setCell ⟨w.heap.size + 3, 0, none⟩ (.int .i64 ((k + c : Nat) : Int))) ∧ Cel (Wc.setCell ⟨w.heap.size + 3, 0, none⟩ (.int .i64 ((k + c : Nat) : Int))) (w.heap.size + 3) [.int .i64 ((k + c : Nat) : Int)] 3) := ⟨(Kept.refl _ _).setCell (fun h => h rfl) _, hk.setCell (fun h => h rfl) _, cR.set 0 _⟩
      have c20 : c ≤ 1048576 := by omega
      rw [show ((k + c : Nat) : Int) = (k : Int) + (c : Int) by omega] at HX ⊢
      clear hst hln
      gi_wp2
      exact HX.out
    · have hge2 : ¬ (k : Int) < (d : Int) := by omega
      have hlt2 : Hid (∀ j, j < q + 1 → gt l j - j ≤ k) := fun j hj => by
        by_cases e : j = q
        · subst e; rw [← hd.out]; omega
        · exact hlt j (by omega)
      clear hst hln
      gi_wp2
      exact ⟨Kept.refl _ _, hk, cR, fun j hj => by have := hlt2.out j hj; omega⟩
  case done =>
    rintro D Wc hD ⟨hk, cR, hlt⟩ hd
    have r0 := cR.cell 0 rfl
    have r1 := cR.frozen 0
    have hB := hide9' ((hk.below (B := w.heap.size) (fun x h => by omega) (by omega)))
    have HE := hide9' (hc.eq (q := mm) (by omega) hlt (fun h => absurd h (by omega)))
    have m1 := (hk.cel c0 (by omega)).cell 1 rfl
    rw [Nat.add_zero] at m1
    have cJ := (hk.cel c2 (by omega)).cell 0 rfl
    have m20 : mm ≤ 1048576 := by omega
    have hb := hide9' (hB.out.setCell (p := ⟨w.heap.size + 3, 0, none⟩) (show w.heap.size ≤ w.heap.size + 3 by omega) (.int .i64 ((k : Int) + (mm : Int))))
    have cS := hide9' (cR.set 0 (.int .i64 ((k : Int) + (mm : Int))))
    have hd2 := hide9' ((Below.heap_setCell Wc ⟨w.heap.size + 3, 0, none⟩ (.int .i64 ((k : Int) + (mm : Int))) D (show D ≠ w.heap.size + 3 by omega)).trans hd)
    clear hd hk
    go_wp2
    have cR2 := (cS.out.put (.deferred none) (show w.heap.size + 3 ≠ D by omega)).cell 0 rfl
    exact marks_ret hd2.out (v := .int .i64 ((k : Int) + (mm : Int))) (by simp [results, Tryd.results43, go_sem, cR2]) ⟨by rw [HE.out]; congr 1, b3.trans (hb.out.trans (below_putObj (by omega) _))⟩
  case stop =>
    rintro D q Wc hD hq ⟨hk, cR⟩ hd
    go_wp2
    have cR2 := (cR.put (.deferred none) (show w.heap.size + 3 ≠ D by omega)).cell 0 rfl
    exact marks_ret hd (v := .int .i64 ((k + c : Nat) : Int)) (by simp [results, Tryd.results43, go_sem, cR2]) ⟨rfl, b3.trans ((hk.below (fun x h => by omega) (by omega)).trans (below_putObj (by omega) _))⟩
end Go.Proofs.YtjkihmjbhiiknaaDoor

namespace Go.Proofs.YtjkihmjbhiiknaaDoor
open Go.RowKit Go.Shelf Num Bit
set_option linter.unusedVariables false
set_option linter.unusedSimpArgs false
set_option maxRecDepth 100000
attribute [local go_sem] Oper.semAt_some

theorem isIn_take (l : List Nat) (q : Nat) (h : q < l.length) (j : Nat) : isIn (l.take (q + 1)) j = (isIn (l.take q) j || gt l q == j) := by
  rw [take_snoc' l q h, isIn_snoc]
theorem Turned.kept {K : Nat → Prop} {g : Nat} {w w' : World} (h : Turned g w w') (hg : ¬ K g) : Kept K w w' := ⟨h.os, h.tape, h.output, Nat.le_of_eq h.size.symm, fun b hb _ => h.block b (fun e => hg (e ▸ hb))⟩
theorem ginfo_b : (Tryd.prog.info? 24).map (·.size) = some 2 := by kernel_rfl

set_option maxHeartbeats 8000000 in
theorem gbits_bad (a0 a1 a2 a3 a4 a5 a6 a7 : Value) (w : World) (CC : Hid (∀ w0, Below w.heap.size w w0 → Calls Tryd.prog 23 #[.agg #[a0, a1, a2, a3, a4, a5, a6, a7]] w0 fun e w' => e = .returned (.bool false) ∧ Below w0.heap.size w0 w')) :
    Calls Tryd.prog 26 #[.agg #[a0, a1, a2, a3, a4, a5, a6, a7]] w fun e w' => e = .returned (.agg #[.int .i64 0, .slice none 0 0]) ∧ Below w.heap.size w w' := by
  · skip
    refine (callsIn_wide (n := 0)).1 (callsIn_of_wp_marks Tryd.func26 rfl trivial ?_)
    simp only [Tryd.ntmps26, List.size_toArray, List.length_cons, List.length_nil, Nat.reduceAdd, Nat.reduceSub, Array.replicate_succ, Array.replicate_zero, List.push_toArray, List.append_toArray, List.nil_append, List.cons_append]
    refine wpIn_wide.2 ?_
    obtain ⟨W1, hW1⟩ : ∃ W1, W1 = (w.alloc (.cells #[a0, a1, a2, a3, a4, a5, a6, a7] 30)).alloc (.cells #[.int .i64 0, .slice none 0 0] 24) := ⟨_, rfl⟩
    have b1 : Below w.heap.size w W1 := by rw [hW1]; exact ((below_alloc w _).alloc (by simp only [World.size_alloc]; omega) _)
    have z1 : W1.heap.size = w.heap.size + 2 := by rw [hW1]; simp
    have c1 : Cel W1 (w.heap.size + 1) [.int .i64 0, .slice none 0 0] 24 := by rw [hW1]; exact Cel.new2 w _ _ _
    go_wp2_with fail
    rw [← hW1]
    clear hW1
    refine (CC.out _ b1).mono ?_
    rintro e wf ⟨rfl, hb⟩
    replace b1 := b1.trans (hb.mono b1.size)
    replace c1 := c1.kept hb
    clear hb CC z1
    go_wp2_with (refine store_cel (w.heap.size + 1) [.int .i64 0, .slice none 0 0] [.int .i64 0, .slice none 0 0] rfl rfl c1 rfl ginfo_b (by simp [Value.oneCell']) ?_)
    intro w3 B3 O3
    have HZ : Hid (Cel w3 (w.heap.size + 1) [.int .i64 0, .slice none 0 0] 24 ∧ Below w.heap.size w w3) := ⟨B3, b1.trans (O3.below (Nat.le_succ _))⟩
    clear B3 O3 b1 c1
    go_wp2
    exact ⟨_, result_cel1 rfl (w.heap.size + 1) _ rfl HZ.out.1 Tryd.underlying24 ginfo_b, rfl, HZ.out.2⟩

set_option maxHeartbeats 16000000 in
theorem gbits_ok (n mm kn vn hh : Nat) (LM : Int) (ao : Option Addr) (xs : List Nat) (cap : Nat) (qo : Option Addr) (ys : List Nat) (dap : Nat) (l : List Nat) (w : World) (F : Fits n mm kn vn LM xs hh ys) (hx : Wd w ao xs) (fx : Fit xs) (hy : Wd w qo ys) (fy : Fit ys) (hl : l.length = mm) (hg : ∀ q, q < mm → plq n mm xs hh ys q = gt l q) (hr : Rise l n) (CC : Hid (∀ w0, Below w.heap.size w w0 → Calls Tryd.prog 23 #[.agg #[.int .i64 (n : Nat), .int .i64 (mm : Nat), .int .i64 (kn : Nat), .int .i64 (vn : Nat), .int .i64 LM, .slice ao xs.length cap, .int .i64 (hh : Nat), .slice qo ys.length dap]] w0 fun e w' => e = .returned (.bool true) ∧ Below w0.heap.size w0 w')) :
    Calls Tryd.prog 26 #[.agg #[.int .i64 (n : Nat), .int .i64 (mm : Nat), .int .i64 (kn : Nat), .int .i64 (vn : Nat), .int .i64 LM, .slice ao xs.length cap, .int .i64 (hh : Nat), .slice qo ys.length dap]] w fun e w' => ∃ bo bc, e = .returned (.agg #[.int .i64 n, .slice bo (rowOf n (isIn l)).length bc]) ∧ Wd w' bo (rowOf n (isIn l)) ∧ (rowOf n (isIn l)).length ≤ bc ∧ Below w.heap.size w w' := by
  have nl := F.hn
  obtain ⟨k, hk0⟩ : ∃ k, Hid (k = (n + 63) / 64) := ⟨_, rfl⟩
  have HL : Hid (∀ f : Nat → Bool, (rowOf n f).length = k) := fun f => by rw [length_rowOf, hk0.out]
  have NC : Hid (∀ w0, Calls Tryd.prog 46 #[.int .i64 (n : Nat)] w0 fun e w' => ∃ g, e = .returned (.tuple #[.agg #[.int .i64 (n : Nat), .slice (some ⟨g, 0, none⟩) k k], .int .i64 0]) ∧ w0.heap.size ≤ g ∧ g < w'.heap.size ∧ Own w' g (rowOf n (fun _ => false)) ∧ Below w0.heap.size w0 w') := fun w0 => by
    have := new_ok (n : Int) k w0 (by omega) (by omega) (by rw [hk0.out]; omega)
    rw [rep_row n k hk0.out] at this
    exact this
  have SC : Hid (∀ w0 g f p, Own w0 g (rowOf n f) → p < n → Calls Tryd.prog 47 #[.slice (some ⟨g, 0, none⟩) k k, .int .i64 (p : Nat)] w0 fun e w' => (∃ v, e = .returned v) ∧ Own w' g (rowOf n (fun j => f j || p == j)) ∧ Turned g w0 w') := fun w0 g f p hO hp => by
    have := gset_c n f g k p w0 hO hp nl
    rw [HL.out f] at this
    exact this
  refine (callsIn_wide (n := 0)).1 (callsIn_of_wp_marks Tryd.func26 rfl trivial ?_)
  simp only [Tryd.ntmps26, List.size_toArray, List.length_cons, List.length_nil, Nat.reduceAdd, Nat.reduceSub, Array.replicate_succ, Array.replicate_zero, List.push_toArray, List.append_toArray, List.nil_append, List.cons_append]
  refine wpIn_wide.2 ?_
  have PC : Hid (∀ w0, Calls Tryd.prog 45 #[.agg #[.int .i64 (n : Nat), .int .i64 (mm : Nat), .int .i64 (kn : Nat), .int .i64 (vn : Nat), .int .i64 LM, .slice ao xs.length cap, .int .i64 (hh : Nat), .slice qo ys.length dap]] w0 fun e w' => e = .returned (.func (.func 62) #[] #[.pointer (some ⟨w0.heap.size, 0, none⟩), .pointer (some ⟨w0.heap.size + 1, 0, none⟩)]) ∧ Cel w' w0.heap.size [.int .i64 (n : Nat), .int .i64 (mm : Nat), .int .i64 (kn : Nat), .int .i64 (vn : Nat), .int .i64 LM, .slice ao xs.length cap, .int .i64 (hh : Nat), .slice qo ys.length dap] 30 ∧ Cel w' (w0.heap.size + 1) [.int .i64 (wdF n mm : Nat)] 3 ∧ w'.heap.size = w0.heap.size + 2 ∧ Below w0.heap.size w0 w') := fun w0 => gplaces_c n mm kn vn hh LM ao xs cap qo ys dap F.hn F.hm w0
  obtain ⟨W1, hW1⟩ : ∃ W1, W1 = (w.alloc (.cells #[.int .i64 (n : Nat), .int .i64 (mm : Nat), .int .i64 (kn : Nat), .int .i64 (vn : Nat), .int .i64 LM, .slice ao xs.length cap, .int .i64 (hh : Nat), .slice qo ys.length dap] 30)).alloc (.cells #[.int .i64 0, .slice none 0 0] 24) := ⟨_, rfl⟩
  have b1 : Below w.heap.size w W1 := by rw [hW1]; exact ((below_alloc w _).alloc (by simp only [World.size_alloc]; omega) _)
  have z1 : W1.heap.size = w.heap.size + 2 := by rw [hW1]; simp
  have c0 : Cel W1 w.heap.size [.int .i64 (n : Nat), .int .i64 (mm : Nat), .int .i64 (kn : Nat), .int .i64 (vn : Nat), .int .i64 LM, .slice ao xs.length cap, .int .i64 (hh : Nat), .slice qo ys.length dap] 30 := by rw [hW1]; exact (Cel.new w _ _).alloc _
  have c1 : Cel W1 (w.heap.size + 1) [.int .i64 0, .slice none 0 0] 24 := by rw [hW1]; exact Cel.new2 w _ _ _
  go_wp2_with fail
  rw [← hW1]
  clear hW1
  refine (CC.out _ b1).mono ?_
  rintro e wf ⟨rfl, hb⟩
  replace b1 := b1.trans (hb.mono b1.size)
  replace c0 := c0.kept hb
  replace c1 := c1.kept hb
  have zf : w.heap.size + 2 ≤ wf.heap.size := by have := hb.size; omega
  clear hb CC z1
  have q0 := c0.cell 0 rfl
  go_wp2_with fail
  refine (NC.out _).mono ?_
  rintro e w2 ⟨g, rfl, hg1, hg2, hO, hb⟩
  replace b1 := b1.trans (hb.mono b1.size)
  replace c0 := c0.kept hb
  replace c1 := c1.kept hb
  clear hb q0 NC
  obtain ⟨g2, hgg⟩ : ∃ g, g = w2.heap.size := ⟨_, rfl⟩
  obtain ⟨W2, hW2⟩ : ∃ W2, W2 = w2.alloc (.cells #[.int .i64 (n : Nat), .slice (some ⟨g, 0, none⟩) k k] 24) := ⟨_, rfl⟩
  have bA : Below w2.heap.size w2 W2 := by rw [hW2]; exact below_alloc w2 _
  have z2 : W2.heap.size = g2 + 1 := by rw [hW2, hgg]; simp
  have c2 : Cel W2 g2 [.int .i64 (n : Nat), .slice (some ⟨g, 0, none⟩) k k] 24 := by rw [hW2, hgg]; exact Cel.new w2 _ _
  have d0 : Cel (w2.alloc (.cells #[.int .i64 (n : Nat), .slice (some ⟨g, 0, none⟩) k k] 24)) w.heap.size [.int .i64 (n : Nat), .int .i64 (mm : Nat), .int .i64 (kn : Nat), .int .i64 (vn : Nat), .int .i64 LM, .slice ao xs.length cap, .int .i64 (hh : Nat), .slice qo ys.length dap] 30 := c0.alloc _
  have q0 := d0.cell 0 rfl
  have q1 := d0.cell 1 rfl
  have q2 := d0.cell 2 rfl
  have q3 := d0.cell 3 rfl
  have q4 := d0.cell 4 rfl
  have q5 := d0.cell 5 rfl
  have q6 := d0.cell 6 rfl
  have q7 := d0.cell 7 rfl
  have HG := hide9' hgg
  rw [← hgg] at hg2
  clear hgg
  have HW2 := hide9' hW2
  clear hW2
  have HZF := hide9' zf
  have HG1 := hide9' hg1
  clear zf hg1
  go_wp2_with fail
  rw [← HW2.out]
  refine (PC.out _).mono ?_
  rintro e w' ⟨rfl, cx, cw, z3, b3⟩
  rw [z2] at cx cw z3 b3
  rw [z2, ← HG.out]
  have zf := HZF.out
  have hg1 := HG1.out
  have zg : wf.heap.size ≤ g2 := by omega
  have b4 : Below w.heap.size w w' := (b1.trans (bA.mono b1.size)).trans (b3.mono (by omega))
  have bC : Below w2.heap.size w2 w' := bA.trans (b3.mono (by rw [← HG.out]; omega))
  replace c0 := c0.kept bC
  replace c1 := c1.kept bC
  replace c2 := c2.keep b3 (by omega)
  replace hO := hO.keep bC
  clear b1 bA b3 bC PC HW2 d0 HG HZF HG1 q0 q1 q2 q3 q4 q5 q6 q7
  go_wp2
  have G := (places1_goes n mm kn vn hh LM ao xs cap qo ys dap (fun b => b ≠ g ∧ b ≠ w'.heap.size + 1) w' (g2 + 1) (g2 + 1 + 1) F (hx.keep b4) fx (hy.keep b4) fy cx cw (by omega) (by omega) (fun p hp h0 => by have := hx.blk hp h0; omega) (fun p hp h0 => by have := hy.blk hp h0; omega)).enc (enc' := fun q => #[.int .i64 q, .int .i64 (gt l q : Nat)]) (fun q hq => by rw [hg q hq])
  have I0 : Own w' g (rowOf n (isIn (l.take 0))) := by
    rw [rowOf_congr n (isIn (l.take 0)) (fun _ => false) fun i _ => by simp [isIn]]
    exact hO
  clear hO
  refine range_law (gf := 62) (lb := #[.pointer (some ⟨g2 + 1, 0, none⟩), .pointer (some ⟨g2 + 2, 0, none⟩)]) (K := fun b => b ≠ g) rfl (enters_of Tryd.func62 (by kernel_rfl) rfl) (fun _ => rfl) G (fun b hb => by omega)
    (fun q Wc => Kept (fun b => b ≠ g) w' Wc ∧ Own Wc g (rowOf n (isIn (l.take q)))) (fun q Wc => False) (fun q A B h hb => ⟨h.1.more hb (Nat.le_refl _), (hb.block g (by omega)).trans h.2⟩) (fun q A B h hb => h) ⟨Kept.refl _ _, I0⟩
    (fun q => { tmps := #[.agg #[.int .i64 (n : Nat), .int .i64 (mm : Nat), .int .i64 (kn : Nat), .int .i64 (vn : Nat), .int .i64 LM, .slice ao xs.length cap, .int .i64 (hh : Nat), .slice qo ys.length dap], .pointer (some ⟨w.heap.size, 0, none⟩), .pointer (some ⟨w.heap.size + 1, 0, none⟩), .pointer (some ⟨g2, 0, none⟩), .int .i64 0, undef, .int .i64 (gt l q : Nat), .agg #[.int .i64 (n : Nat), .int .i64 (mm : Nat), .int .i64 (kn : Nat), .int .i64 (vn : Nat), .int .i64 LM, .slice ao xs.length cap, .int .i64 (hh : Nat), .slice qo ys.length dap], .bool true, .bool false, undef, .tuple #[.agg #[.int .i64 (n : Nat), .slice (some ⟨g, 0, none⟩) k k], .int .i64 0], .pointer (some ⟨w.heap.size, 0, none⟩), .int .i64 (n : Nat), .tuple #[.agg #[.int .i64 (n : Nat), .slice (some ⟨g, 0, none⟩) k k], .int .i64 0], .agg #[.int .i64 (n : Nat), .slice (some ⟨g, 0, none⟩) k k], .int .i64 0, .agg #[.int .i64 (n : Nat), .int .i64 (mm : Nat), .int .i64 (kn : Nat), .int .i64 (vn : Nat), .int .i64 LM, .slice ao xs.length cap, .int .i64 (hh : Nat), .slice qo ys.length dap], .func (.func 62) #[] #[.pointer (some ⟨g2 + 1, 0, none⟩), .pointer (some ⟨g2 + 2, 0, none⟩)], .int .i64 (q : Nat), .int .i64 (gt l q : Nat), undef, undef, undef, undef, undef], defers := [] }) ?assign ?body ?done ?stop
  case assign =>
    intro l1 q Wc K1 hK1
    gi_wp2
    exact hK1
  case body =>
    rintro l1 q Wc hq ⟨hk, hO⟩ hz
    have m1 := (hk.cel c2 (by omega)).cell 1 rfl
    have hlt := hr.1 q (by omega)
    have S1 := hide9' (SC.out Wc g _ (gt l q) hO hlt)
    have RW : Hid (rowOf n (fun j => isIn (l.take q) j || gt l q == j) = rowOf n (isIn (l.take (q + 1)))) := rowOf_congr _ _ _ fun j _ => (isIn_take l q (by omega) j).symm
    clear G hO
    gi_wp2_with fail
    refine ⟨trivial, rfl, ?_⟩
    refine (CallsIn.inRound l1 (callsIn_wide.2 S1.out)).mono ?_
    rintro e W3 ⟨⟨v, rfl⟩, hO3, hT⟩
    rw [RW.out] at hO3
    have kT : Kept (fun b => b ≠ g) Wc W3 := hT.kept (fun h => h rfl)
    have HE := hide9' (And.intro kT (And.intro (hk.trans kT) hO3))
    clear kT hT hO3 m1
    gi_wp2
    exact HE.out
  case done =>
    rintro D Wc hD ⟨hk, hO⟩ hd
    rw [← hl, List.take_of_length_le (Nat.le_refl _)] at hO
    have cR := hk.cel c1 (by omega)
    have cB := hk.cel c2 (by omega)
    have hb := b4.trans (hk.below (B := w.heap.size) (fun x h => by omega) (by omega))
    have DN : D ≠ g ∧ D ≠ w.heap.size + 1 ∧ w.heap.size ≤ D := ⟨by omega, by omega, by omega⟩
    have gN : g ≠ w.heap.size + 1 ∧ w.heap.size ≤ g := ⟨by omega, by omega⟩
    clear hk c0 c1 c2 cx cw
    go_wp2_with (first | refine load_cel g2 _ rfl cB Tryd.underlying24 ginfo_b ?_ | refine store_cel (w.heap.size + 1) [.int .i64 0, .slice none 0 0] _ rfl rfl cR rfl ginfo_b (by simp [Value.oneCell']) ?_)
    intro w3 B3 O3
    have b5 := hb.trans (O3.below (Nat.le_succ _))
    have hO3 : Own w3 g (rowOf n (isIn l)) := (O3.block g gN.1).trans hO
    have hd3 : w3.heap[D]? = some (.deferred (some [])) := (O3.block D DN.2.1).trans hd
    have HZ := hide9' (And.intro B3 (And.intro hO3 (And.intro hd3 b5)))
    clear B3 O3 hO3 hd3 b5 hd hO cB cR
    go_wp2
    obtain ⟨B3, hO3, hd3, b5⟩ := HZ.out
    have cR2 := B3.put (.deferred none) (show w.heap.size + 1 ≠ D from fun e => DN.2.1 e.symm)
    have hO4 : Own (w3.putObj D (.deferred none)) g (rowOf n (isIn l)) := (World.putObj_heap_other (fun e => DN.1 e.symm)).trans hO3
    refine marks_ret hd3 (result_cel1 rfl (w.heap.size + 1) _ rfl cR2 Tryd.underlying24 ginfo_b) ⟨some ⟨g, 0, none⟩, k, ?_, hO4.wd, ?_, b5.trans (below_putObj DN.2.2 _)⟩
    · rw [HL.out]
    · exact Nat.le_of_eq (HL.out _)
  case stop =>
    rintro D q Wc hD hq h hd
    exact h.elim
end Go.Proofs.YtjkihmjbhiiknaaDoor
