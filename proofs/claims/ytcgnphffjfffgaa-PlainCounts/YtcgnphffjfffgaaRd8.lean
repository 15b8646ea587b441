/-
  The contracts of the document's Build, Check, Whole, Bits and Size.
-/
import Derived.Test.YtcgnphffjfffgaaRd7
namespace Go.Proofs.Ytcgnphffjfffgaa
open Go.RowKit Num Bit
set_option linter.unusedVariables false
set_option linter.unusedSimpArgs false
set_option maxRecDepth 100000

/-- A row with counts that was answered. -/
structure PlOut (w : World) (bo : Option Addr) (X : List Nat) (bc : Nat) (so : Option Addr) (S : List Int) (sc : Nat) (tO : Option Addr) (T : List Int) (tc : Nat) : Prop where
  x : Wd w bo X
  xc : X.length ≤ bc
  s : Nd w so S
  sc : S.length ≤ sc
  t : Nd w tO T
  tc : T.length ≤ tc
theorem PlOut.keep {w w' : World} {bo : Option Addr} {X : List Nat} {bc : Nat} {so : Option Addr} {S : List Int} {sc : Nat} {tO : Option Addr} {T : List Int} {tc : Nat} (h : PlOut w bo X bc so S sc tO T tc) (hb : Below w.heap.size w w') : PlOut w' bo X bc so S sc tO T tc :=
  ⟨h.x.keep hb, h.xc, h.s.keep hb, h.sc, h.t.keep hb, h.tc⟩

set_option maxHeartbeats 2000000 in
theorem rbuild_bad (N : Int) (ao : Option Addr) (xs : List Nat) (cap : Nat) (w : World) (hx : Wd w ao xs) (hf : Fit xs) (hk : chk N xs = false) :
    Calls Try.prog 12 #[.agg #[.int .i64 N, .slice ao xs.length cap]] w fun e w' => e = .returned (.tuple #[.agg #[.int .i64 0, .slice none 0 0, .slice none 0 0, .slice none 0 0], .int .i64 2]) ∧ Below w.heap.size w w' := by
  obtain ⟨W, hW⟩ : ∃ W, W = (w.alloc (.cells #[.int .i64 N, .slice ao xs.length cap] 24)).alloc (.cells #[.int .i64 0, .slice none 0 0, .slice none 0 0, .slice none 0 0] 29) := ⟨_, rfl⟩
  have bW : Below w.heap.size w W := by rw [hW]; exact (below_alloc w _).alloc (by simp) _
  have B2 : Cel W (w.heap.size + 1) [.int .i64 0, .slice none 0 0, .slice none 0 0, .slice none 0 0] 29 := by rw [hW]; exact Cel.new2 w _ _ _
  have C1 : Hid (∀ w0, w0 = W → Calls Try.prog 7 #[.agg #[.int .i64 N, .slice ao xs.length cap]] w0 fun e w' => e = .returned (.bool false) ∧ Below w0.heap.size w0 w') := fun w0 h => by
    subst h
    have := refcheck_c N ao xs cap w0 (hx.keep bW) hf
    rw [hk] at this
    exact this
  go_enter Try.func12, Try.ntmps12
  go_wp2_with fail
  rw [← hW]
  refine (C1.out _ rfl).mono ?_
  rintro e w1 ⟨rfl, hb⟩
  have bw1 := bW.trans (hb.mono bW.size)
  replace B2 := B2.kept hb
  clear hb C1 hW bW W
  have y0 := B2.cell 0 rfl
  have y1 := B2.cell 1 rfl
  have y2 := B2.cell 2 rfl
  have y3 := B2.cell 3 rfl
  have f0 := B2.frozen 0
  have f1 := B2.frozen 1
  have f2 := B2.frozen 2
  have f3 := B2.frozen 3
  have hC := (((B2.set 0 (.int .i64 0)).set 1 (.slice none 0 0)).set 2 (.slice none 0 0)).set 3 (.slice none 0 0)
  have HB := below_set (below_set (below_set (below_set bw1 (w.heap.size + 1) 0 (.int .i64 0) (Nat.le_succ _)) (w.heap.size + 1) 1 (.slice none 0 0) (Nat.le_succ _)) (w.heap.size + 1) 2 (.slice none 0 0) (Nat.le_succ _)) (w.heap.size + 1) 3 (.slice none 0 0) (Nat.le_succ _)
  have k0 := hC.cell 0 rfl
  have k1 := hC.cell 1 rfl
  have k2 := hC.cell 2 rfl
  have k3 := hC.cell 3 rfl
  go_wp2
  exact bodyPost_ret (v := .tuple #[.agg #[.int .i64 0, .slice none 0 0, .slice none 0 0, .slice none 0 0], .int .i64 2]) (by simp [results, Try.results12, go_sem, k0, k1, k2, k3]) rfl ⟨rfl, HB⟩

theorem rbuild_c (N : Int) (ao : Option Addr) (xs : List Nat) (cap : Nat) (w : World) (hx : Wd w ao xs) (hf : Fit xs) (hcap : xs.length ≤ cap) :
    Calls Try.prog 12 #[.agg #[.int .i64 N, .slice ao xs.length cap]] w fun e w' => ∃ bo bc so sc tO tc, e = .returned (.tuple #[.agg #[.int .i64 (pbN N xs), .slice bo (pbX N xs).length bc, .slice so (pbS N xs).length sc, .slice tO (pbT N xs).length tc], .int .i64 (pbE N xs)]) ∧ PlOut w' bo (pbX N xs) bc so (pbS N xs) sc tO (pbT N xs) tc ∧ Below w.heap.size w w' := by
  unfold pbN pbX pbS pbT pbE
  cases hk : chk N xs with
  | false =>
    refine (rbuild_bad N ao xs cap w hx hf hk).mono ?_
    rintro e w' ⟨rfl, hb⟩
    exact ⟨none, 0, none, 0, none, 0, rfl, ⟨wd0' _ _, Nat.le_refl _, nd0 _ _, Nat.le_refl _, nd0 _ _, Nat.le_refl _⟩, hb⟩
  | true =>
    refine (rbuild_ok N ao xs cap w hx hf hk).mono ?_
    rintro e w' ⟨so, sc, tO, tc, rfl, h1, h2, h3, h4, hb⟩
    exact ⟨ao, cap, so, sc, tO, tc, rfl, ⟨hx.keep hb, hcap, h1, h2, h3, h4⟩, hb⟩

theorem pchk_eq (N : Int) (xs : List Nat) (su sb : List Int) (hk : chk N xs = true) : ((decide (N = N) && decide (xs = xs)) && (decide (su = supL N xs) && decide (sb = subL N xs))) = pchk N xs su sb := by
  unfold pchk
  rw [hk]
  simp

set_option maxHeartbeats 4000000 in
theorem rcheckp_c (N : Int) (ao : Option Addr) (xs : List Nat) (cap : Nat) (so : Option Addr) (su : List Int) (sc : Nat) (tO : Option Addr) (sb : List Int) (tc : Nat) (w : World)
    (hx : Wd w ao xs) (hf : Fit xs) (hcap : xs.length ≤ cap) (s1 : Nd w so su) (sl : su.length ≤ 1048576) (t1 : Nd w tO sb) (tl : sb.length ≤ 1048576) :
    Calls Try.prog 22 #[.agg #[.int .i64 N, .slice ao xs.length cap, .slice so su.length sc, .slice tO sb.length tc]] w fun e w' => e = .returned (.bool (pchk N xs su sb)) ∧ Below w.heap.size w w' := by
  obtain ⟨W, hW⟩ : ∃ W, W = w.alloc (.cells #[.int .i64 N, .slice ao xs.length cap, .slice so su.length sc, .slice tO sb.length tc] 29) := ⟨_, rfl⟩
  have bW : Below w.heap.size w W := by rw [hW]; exact below_alloc w _
  have B1 : Cel W w.heap.size [.int .i64 N, .slice ao xs.length cap, .slice so su.length sc, .slice tO sb.length tc] 29 := by rw [hW]; exact Cel.new w _ _
  cases hk : chk N xs with
  | false =>
    have R : Hid (pchk N xs su sb = false) := by show pchk N xs su sb = false; unfold pchk; rw [hk]; rfl
    have C1 : Hid (∀ w0, w0 = W → Calls Try.prog 12 #[.agg #[.int .i64 N, .slice ao xs.length cap]] w0 fun e w' => e = .returned (.tuple #[.agg #[.int .i64 0, .slice none 0 0, .slice none 0 0, .slice none 0 0], .int .i64 2]) ∧ Below w0.heap.size w0 w') := fun w0 h => by subst h; exact rbuild_bad N ao xs cap w0 (hx.keep bW) hf hk
    go_enter Try.func22, Try.ntmps22
    go_wp2_with fail
    rw [← hW]
    refine (C1.out _ rfl).mono ?_
    rintro e w1 ⟨rfl, hb⟩
    have bw1 := bW.trans (hb.mono bW.size)
    go_wp2
    go_ret
    rw [R.out]
    exact ⟨rfl, bw1.alloc (Nat.le_trans (Nat.le_refl _) bw1.size) _⟩
  | true =>
    obtain ⟨h0, h1, h2, _⟩ := chk_out N xs hk
    have hlx : xs.length ≤ 1048576 := by omega
    have C1 : Hid (∀ w0, w0 = W → Calls Try.prog 12 #[.agg #[.int .i64 N, .slice ao xs.length cap]] w0 fun e w' => ∃ po pc qo qc, e = .returned (.tuple #[.agg #[.int .i64 N, .slice ao xs.length cap, .slice po (supL N xs).length pc, .slice qo (subL N xs).length qc], .int .i64 0]) ∧ Nd w' po (supL N xs) ∧ (supL N xs).length ≤ pc ∧ Nd w' qo (subL N xs) ∧ (subL N xs).length ≤ qc ∧ Below w0.heap.size w0 w') := fun w0 h => by subst h; exact rbuild_ok N ao xs cap w0 (hx.keep bW) hf hk
    clear h2
    go_enter Try.func22, Try.ntmps22
    go_wp2_with fail
    rw [← hW]
    refine (C1.out _ rfl).mono ?_
    rintro e w1 ⟨po, pc, qo, qc, rfl, n1, n2, n3, n4, hb⟩
    have bw1 := bW.trans (hb.mono bW.size)
    replace B1 := B1.kept hb
    have hlt := B1.lt
    obtain ⟨V, hV⟩ : ∃ V, V = w1.alloc (.cells #[.int .i64 N, .slice ao xs.length cap, .slice po (supL N xs).length pc, .slice qo (subL N xs).length qc] 29) := ⟨_, rfl⟩
    have bV : Below w1.heap.size w1 V := by rw [hV]; exact below_alloc w1 _
    have bwV := bw1.trans (bV.mono bw1.size)
    have C2 : Hid (∀ w0, w0 = V → Calls Try.prog 13 #[.agg #[.int .i64 N, .slice ao xs.length cap, .slice so su.length sc, .slice tO sb.length tc], .agg #[.int .i64 N, .slice ao xs.length cap, .slice po (supL N xs).length pc, .slice qo (subL N xs).length qc]] w0 fun e w' => e = .returned (.bool (pchk N xs su sb)) ∧ Below w0.heap.size w0 w') := fun w0 h => by
      subst h
      have := rsame_c N ao xs cap so su sc tO sb tc N ao xs cap po (supL N xs) pc qo (subL N xs) qc w0 (hx.keep bwV) (hx.keep bwV) hlx (s1.keep bwV) (n1.keep bV) sl (t1.keep bwV) (n3.keep bV) tl
      rw [pchk_eq N xs su sb hk] at this
      exact this
    have r0 := B1.cell 0 rfl
    have r1 := B1.cell 1 rfl
    have r2 := B1.cell 2 rfl
    have r3 := B1.cell 3 rfl
    clear hb C1 hW bW W
    go_wp2_with fail
    rw [← hV]
    refine (C2.out _ rfl).mono ?_
    rintro e w2 ⟨rfl, hb2⟩
    have bw2 := bwV.trans (hb2.mono bwV.size)
    go_wp2
    go_ret
    exact ⟨rfl, bw2⟩

def piA (N : Int) (xs : List Nat) (su sb : List Int) (ao : Option Addr) : Option Addr := if pchk N xs su sb then ao else none
def piC (N : Int) (xs : List Nat) (su sb : List Int) (cap : Nat) : Nat := if pchk N xs su sb then cap else 0
theorem pi_wd {w : World} {ao : Option Addr} {xs : List Nat} (N : Int) (su sb : List Int) (hx : Wd w ao xs) : Wd w (piA N xs su sb ao) (piX N xs su sb) := by
  unfold piA piX
  cases pchk N xs su sb with
  | false => exact wd0' _ _
  | true => exact hx
theorem pi_cap (N : Int) (xs : List Nat) (su sb : List Int) (cap : Nat) (h : xs.length ≤ cap) : (piX N xs su sb).length ≤ piC N xs su sb cap := by
  unfold piC piX
  cases pchk N xs su sb with
  | false => exact Nat.le_refl _
  | true => exact h
theorem pi_fit (N : Int) (xs : List Nat) (su sb : List Int) (h : Fit xs) : Fit (piX N xs su sb) := by
  unfold piX
  cases pchk N xs su sb with
  | false => intro i; unfold gt; simp
  | true => exact h

set_option maxHeartbeats 2000000 in
theorem rwhole_c (N : Int) (ao : Option Addr) (xs : List Nat) (cap : Nat) (so : Option Addr) (su : List Int) (sc : Nat) (tO : Option Addr) (sb : List Int) (tc : Nat) (w : World)
    (hx : Wd w ao xs) (hf : Fit xs) (hcap : xs.length ≤ cap) (s1 : Nd w so su) (sl : su.length ≤ 1048576) (t1 : Nd w tO sb) (tl : sb.length ≤ 1048576) :
    Calls Try.prog 37 #[.agg #[.int .i64 N, .slice ao xs.length cap, .slice so su.length sc, .slice tO sb.length tc]] w fun e w' => e = .returned (.tuple #[.agg #[.int .i64 (piN N xs su sb), .slice (piA N xs su sb ao) (piX N xs su sb).length (piC N xs su sb cap)], .bool (pchk N xs su sb)]) ∧ Below w.heap.size w w' := by
  obtain ⟨W, hW⟩ : ∃ W, W = (w.alloc (.cells #[.int .i64 N, .slice ao xs.length cap, .slice so su.length sc, .slice tO sb.length tc] 29)).alloc (.cells #[.int .i64 0, .slice none 0 0] 24) := ⟨_, rfl⟩
  have bW : Below w.heap.size w W := by rw [hW]; exact (below_alloc w _).alloc (by simp) _
  have B1 : Cel W w.heap.size [.int .i64 N, .slice ao xs.length cap, .slice so su.length sc, .slice tO sb.length tc] 29 := by rw [hW]; exact (Cel.new w _ _).alloc _
  have B2 : Cel W (w.heap.size + 1) [.int .i64 0, .slice none 0 0] 24 := by rw [hW]; exact Cel.new2 w _ _ _
  have C1 : Hid (∀ w0, w0 = W → Calls Try.prog 22 #[.agg #[.int .i64 N, .slice ao xs.length cap, .slice so su.length sc, .slice tO sb.length tc]] w0 fun e w' => e = .returned (.bool (pchk N xs su sb)) ∧ Below w0.heap.size w0 w') := fun w0 h => by
    subst h
    exact rcheckp_c N ao xs cap so su sc tO sb tc w0 (hx.keep bW) hf hcap (s1.keep bW) sl (t1.keep bW) tl
  unfold piN piX piA piC
  cases hk : pchk N xs su sb with
  | false =>
    rw [hk] at C1
    go_enter Try.func37, Try.ntmps37
    go_wp2_with fail
    rw [← hW]
    refine (C1.out _ rfl).mono ?_
    rintro e w1 ⟨rfl, hb⟩
    have bw1 := bW.trans (hb.mono bW.size)
    replace B2 := B2.kept hb
    have y0 := B2.cell 0 rfl
    have y1 := B2.cell 1 rfl
    have f0 := B2.frozen 0
    have f1 := B2.frozen 1
    have hC := (B2.set 0 (.int .i64 0)).set 1 (.slice none 0 0)
    have HB := below_set (below_set bw1 (w.heap.size + 1) 0 (.int .i64 0) (Nat.le_succ _)) (w.heap.size + 1) 1 (.slice none 0 0) (Nat.le_succ _)
    have k0 := hC.cell 0 rfl
    have k1 := hC.cell 1 rfl
    go_wp2
    exact bodyPost_ret (v := .tuple #[.agg #[.int .i64 0, .slice none 0 0], .bool false]) (by simp [results, Try.results37, go_sem, k0, k1]) rfl ⟨rfl, HB⟩
  | true =>
    rw [hk] at C1
    go_enter Try.func37, Try.ntmps37
    go_wp2_with fail
    rw [← hW]
    refine (C1.out _ rfl).mono ?_
    rintro e w1 ⟨rfl, hb⟩
    have bw1 := bW.trans (hb.mono bW.size)
    replace B2 := B2.kept hb
    replace B1 := B1.kept hb
    have r0 := B1.cell 0 rfl
    have r1 := B1.cell 1 rfl
    have y0 := B2.cell 0 rfl
    have y1 := B2.cell 1 rfl
    have f0 := B2.frozen 0
    have f1 := B2.frozen 1
    have hC := (B2.set 0 (.int .i64 N)).set 1 (.slice ao xs.length cap)
    have HB := below_set (below_set bw1 (w.heap.size + 1) 0 (.int .i64 N) (Nat.le_succ _)) (w.heap.size + 1) 1 (.slice ao xs.length cap) (Nat.le_succ _)
    have k0 := hC.cell 0 rfl
    have k1 := hC.cell 1 rfl
    go_wp2
    exact bodyPost_ret (v := .tuple #[.agg #[.int .i64 N, .slice ao xs.length cap], .bool true]) (by simp [results, Try.results37, go_sem, k0, k1]) rfl ⟨rfl, HB⟩

set_option maxHeartbeats 2000000 in
theorem rbits_c (N : Int) (ao : Option Addr) (xs : List Nat) (cap : Nat) (so : Option Addr) (su : List Int) (sc : Nat) (tO : Option Addr) (sb : List Int) (tc : Nat) (w : World)
    (hx : Wd w ao xs) (hf : Fit xs) (hcap : xs.length ≤ cap) (s1 : Nd w so su) (sl : su.length ≤ 1048576) (t1 : Nd w tO sb) (tl : sb.length ≤ 1048576) :
    Calls Try.prog 25 #[.agg #[.int .i64 N, .slice ao xs.length cap, .slice so su.length sc, .slice tO sb.length tc]] w fun e w' => e = .returned (.agg #[.int .i64 (piN N xs su sb), .slice (piA N xs su sb ao) (piX N xs su sb).length (piC N xs su sb cap)]) ∧ Below w.heap.size w w' := by
  obtain ⟨W, hW⟩ : ∃ W, W = (w.alloc (.cells #[.int .i64 N, .slice ao xs.length cap, .slice so su.length sc, .slice tO sb.length tc] 29)).alloc (.cells #[.int .i64 0, .slice none 0 0] 24) := ⟨_, rfl⟩
  have bW : Below w.heap.size w W := by rw [hW]; exact (below_alloc w _).alloc (by simp) _
  have B2 : Cel W (w.heap.size + 1) [.int .i64 0, .slice none 0 0] 24 := by rw [hW]; exact Cel.new2 w _ _ _
  have C1 : Hid (∀ w0, w0 = W → Calls Try.prog 37 #[.agg #[.int .i64 N, .slice ao xs.length cap, .slice so su.length sc, .slice tO sb.length tc]] w0 fun e w' => e = .returned (.tuple #[.agg #[.int .i64 (piN N xs su sb), .slice (piA N xs su sb ao) (piX N xs su sb).length (piC N xs su sb cap)], .bool (pchk N xs su sb)]) ∧ Below w0.heap.size w0 w') := fun w0 h => by
    subst h
    exact rwhole_c N ao xs cap so su sc tO sb tc w0 (hx.keep bW) hf hcap (s1.keep bW) sl (t1.keep bW) tl
  generalize piN N xs su sb = P at *
  generalize piX N xs su sb = X at *
  generalize piA N xs su sb ao = bo at *
  generalize piC N xs su sb cap = bc at *
  go_enter Try.func25, Try.ntmps25
  go_wp2_with fail
  rw [← hW]
  refine (C1.out _ rfl).mono ?_
  rintro e w1 ⟨rfl, hb⟩
  have bw1 := bW.trans (hb.mono bW.size)
  replace B2 := B2.kept hb
  have bA := below_alloc w1 (.cells #[.int .i64 P, .slice bo X.length bc] 24)
  replace B2 := B2.kept bA
  have y0 := B2.cell 0 rfl
  have y1 := B2.cell 1 rfl
  have f0 := B2.frozen 0
  have f1 := B2.frozen 1
  have hC := (B2.set 0 (.int .i64 P)).set 1 (.slice bo X.length bc)
  have HB := below_set (below_set (bw1.trans (bA.mono bw1.size)) (w.heap.size + 1) 0 (.int .i64 P) (Nat.le_succ _)) (w.heap.size + 1) 1 (.slice bo X.length bc) (Nat.le_succ _)
  have k0 := hC.cell 0 rfl
  have k1 := hC.cell 1 rfl
  go_wp2
  exact bodyPost_ret (v := .agg #[.int .i64 P, .slice bo X.length bc]) (by simp [results, Try.results25, go_sem, k0, k1]) rfl ⟨rfl, HB⟩

set_option maxHeartbeats 2000000 in
theorem rsize_c (N : Int) (ao : Option Addr) (xs : List Nat) (cap : Nat) (so : Option Addr) (su : List Int) (sc : Nat) (tO : Option Addr) (sb : List Int) (tc : Nat) (w : World)
    (hx : Wd w ao xs) (hf : Fit xs) (hcap : xs.length ≤ cap) (s1 : Nd w so su) (sl : su.length ≤ 1048576) (t1 : Nd w tO sb) (tl : sb.length ≤ 1048576) :
    Calls Try.prog 15 #[.agg #[.int .i64 N, .slice ao xs.length cap, .slice so su.length sc, .slice tO sb.length tc]] w fun e w' => e = .returned (.int .i64 (pzN N xs su sb)) ∧ Below w.heap.size w w' := by
  obtain ⟨W, hW⟩ : ∃ W, W = w.alloc (.cells #[.int .i64 N, .slice ao xs.length cap, .slice so su.length sc, .slice tO sb.length tc] 29) := ⟨_, rfl⟩
  have bW : Below w.heap.size w W := by rw [hW]; exact below_alloc w _
  have B1 : Cel W w.heap.size [.int .i64 N, .slice ao xs.length cap, .slice so su.length sc, .slice tO sb.length tc] 29 := by rw [hW]; exact Cel.new w _ _
  have C1 : Hid (∀ w0, w0 = W → Calls Try.prog 22 #[.agg #[.int .i64 N, .slice ao xs.length cap, .slice so su.length sc, .slice tO sb.length tc]] w0 fun e w' => e = .returned (.bool (pchk N xs su sb)) ∧ Below w0.heap.size w0 w') := fun w0 h => by
    subst h
    exact rcheckp_c N ao xs cap so su sc tO sb tc w0 (hx.keep bW) hf hcap (s1.keep bW) sl (t1.keep bW) tl
  unfold pzN
  cases hk : pchk N xs su sb with
  | false =>
    rw [hk] at C1
    go_enter Try.func15, Try.ntmps15
    go_wp2_with fail
    rw [← hW]
    refine (C1.out _ rfl).mono ?_
    rintro e w1 ⟨rfl, hb⟩
    have bw1 := bW.trans (hb.mono bW.size)
    go_wp2
    go_ret
    exact ⟨rfl, bw1⟩
  | true =>
    obtain ⟨h1, -, -⟩ := pchk_out N xs su sb hk
    obtain ⟨h2, h3, -, -⟩ := chk_out N xs h1
    rw [hk] at C1
    go_enter Try.func15, Try.ntmps15
    go_wp2_with fail
    rw [← hW]
    refine (C1.out _ rfl).mono ?_
    rintro e w1 ⟨rfl, hb⟩
    have bw1 := bW.trans (hb.mono bW.size)
    replace B1 := B1.kept hb
    have r0 := B1.cell 0 rfl
    have r1 := B1.cell 1 rfl
    have r2 := B1.cell 2 rfl
    have r3 := B1.cell 3 rfl
    go_wp2
    go_ret
    exact ⟨rfl, bw1⟩
end Go.Proofs.Ytcgnphffjfffgaa
