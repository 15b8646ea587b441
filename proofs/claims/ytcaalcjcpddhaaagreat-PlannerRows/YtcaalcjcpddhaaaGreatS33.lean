/-
  The contracts of the document's Build, Check, Whole, Bits and Size. The contracts of the document's Access, Rank and Select. A row with counts that is handed in: what is known of it. errors.As at the target of package ints (a struct of a number and a text): an error of that very type is found, and the target holds it; numberOf answers its number. Plain arithmetic of rows of bits, more: what is laid over words (put), words that are copied, and the rows that append and join make. Plain arithmetic of rows of numbers: what may be, what is got, put, listed and made; bits that are laid over words.
-/
import Derived.Test.YtcaalcjcpddhaaaGreatS32
import Derived.LaidEql
import Derived.Stop.Asserts
import Derived.RowKitTokens
set_option linter.unusedVariables false
set_option linter.unusedSimpArgs false
set_option maxRecDepth 100000
namespace Go.Proofs.YtcaalcjcpddhaaaGreat
open Go.RowKit Num Bit
structure PlOut (base : Nat) (w : World) (bo : Option Addr) (X : List Nat) (bc : Nat) (so : Option Addr) (S : List Int) (sc : Nat) (tO : Option Addr) (T : List Int) (tc : Nat) : Prop where
 x : Wd w bo X
 xc : X.length ≤ bc
 s : Nd w so S
 sc : S.length ≤ sc
 t : Nd w tO T
 tc : T.length ≤ tc
 sn : Fr base so
 tn : Fr base tO
set_option maxHeartbeats 2000000 in
theorem rbuild_bad (N : Int) (ao : Option Addr) (xs : List Nat) (cap : Nat) (w : World) (hx : Wd w ao xs) (hf : Fit xs) (hk : chk N xs = false) :
  Calls Tryz.prog 12 #[.agg #[.int .i64 N, .slice ao xs.length cap]] w fun e w' => e = .returned (.tuple #[.agg #[.int .i64 0, .slice none 0 0, .slice none 0 0, .slice none 0 0], .int .i64 2]) ∧ Below w.heap.size w w' := by
 obtain ⟨W, hW⟩ : ∃ W, W = (w.alloc (.cells #[.int .i64 N, .slice ao xs.length cap] 24)).alloc (.cells #[.int .i64 0, .slice none 0 0, .slice none 0 0, .slice none 0 0] 28) := ⟨_, rfl⟩
 have bW : Below w.heap.size w W := by rw [hW]; exact (below_alloc w _).alloc (by simp) _
 have B2 : Cel W (w.heap.size + 1) [.int .i64 0, .slice none 0 0, .slice none 0 0, .slice none 0 0] 28 := by rw [hW]; exact Cel.new2 w _ _ _
 have C1 : Hid (∀ w0, w0 = W → Calls Tryz.prog 21 #[.agg #[.int .i64 N, .slice ao xs.length cap]] w0 fun e w' => e = .returned (.bool false) ∧ Below w0.heap.size w0 w') := fun w0 h => by
  subst h
  have := refcheck_c N ao xs cap w0 (hx.keep bW) hf
  rw [hk] at this
  exact this
 go_enter Tryz.func12, Tryz.ntmps12
 go_wp2_with fail
 rw [← hW]
 refine (C1.out _ rfl).mono ?_
 rintro e w1 ⟨rfl, hb⟩
 have bw1 := bW.trans (hb.mono bW.size)
 replace B2 := B2.kept hb
 clear hb C1 hW bW W
 have y0 := B2.cell 0 rfl
 have y1 := B2.cell 1 rfl
 have y2 := B2.cell 2 rfl
 have y3 := B2.cell 3 rfl
 have f0 := B2.frozen 0
 have f1 := B2.frozen 1
 have f2 := B2.frozen 2
 have f3 := B2.frozen 3
 have hC := (((B2.set 0 (.int .i64 0)).set 1 (.slice none 0 0)).set 2 (.slice none 0 0)).set 3 (.slice none 0 0)
 have HB := below_set (below_set (below_set (below_set bw1 (w.heap.size + 1) 0 (.int .i64 0) (Nat.le_succ _)) (w.heap.size + 1) 1 (.slice none 0 0) (Nat.le_succ _)) (w.heap.size + 1) 2 (.slice none 0 0) (Nat.le_succ _)) (w.heap.size + 1) 3 (.slice none 0 0) (Nat.le_succ _)
 have k0 := hC.cell 0 rfl
 have k1 := hC.cell 1 rfl
 have k2 := hC.cell 2 rfl
 have k3 := hC.cell 3 rfl
 go_wp2
 exact bodyPost_ret (v := .tuple #[.agg #[.int .i64 0, .slice none 0 0, .slice none 0 0, .slice none 0 0], .int .i64 2]) (by simp [results, Tryz.results12, go_sem, k0, k1, k2, k3]) rfl ⟨rfl, HB⟩
theorem rbuild_c (N : Int) (ao : Option Addr) (xs : List Nat) (cap : Nat) (w : World) (hx : Wd w ao xs) (hf : Fit xs) (hcap : xs.length ≤ cap) :
  Calls Tryz.prog 12 #[.agg #[.int .i64 N, .slice ao xs.length cap]] w fun e w' => ∃ bo bc so sc tO tc, e = .returned (.tuple #[.agg #[.int .i64 (pbN N xs), .slice bo (pbX N xs).length bc, .slice so (pbS N xs).length sc, .slice tO (pbT N xs).length tc], .int .i64 (pbE N xs)]) ∧ PlOut w.heap.size w' bo (pbX N xs) bc so (pbS N xs) sc tO (pbT N xs) tc ∧ Below w.heap.size w w' := by
 unfold pbN pbX pbS pbT pbE
 cases hk : chk N xs with
 | false =>
  refine (rbuild_bad N ao xs cap w hx hf hk).mono ?_
  rintro e w' ⟨rfl, hb⟩
  exact ⟨none, 0, none, 0, none, 0, rfl, ⟨wd0' _ _, Nat.le_refl _, nd0 _ _, Nat.le_refl _, nd0 _ _, Nat.le_refl _, fr0 _, fr0 _⟩, hb⟩
 | true =>
  refine (rbuild_ok N ao xs cap w hx hf hk).mono ?_
  rintro e w' ⟨so, sc, tO, tc, rfl, h1, h2, h3, h4, hb, f1, f2⟩
  exact ⟨ao, cap, so, sc, tO, tc, rfl, ⟨hx.keep hb, hcap, h1, h2, h3, h4, f1, f2⟩, hb⟩
theorem pchk_eq (N : Int) (xs : List Nat) (su sb : List Int) (hk : chk N xs = true) : ((decide (N = N) && decide (xs = xs)) && (decide (su = supL N xs) && decide (sb = subL N xs))) = pchk N xs su sb := by
 unfold pchk
 rw [hk]
 simp
set_option maxHeartbeats 4000000 in
theorem rcheckp_c (N : Int) (ao : Option Addr) (xs : List Nat) (cap : Nat) (so : Option Addr) (su : List Int) (sc : Nat) (tO : Option Addr) (sb : List Int) (tc : Nat) (w : World)
  (hx : Wd w ao xs) (hf : Fit xs) (hcap : xs.length ≤ cap) (s1 : Nd w so su) (sl : su.length ≤ 1048576) (t1 : Nd w tO sb) (tl : sb.length ≤ 1048576) :
  Calls Tryz.prog 41 #[.agg #[.int .i64 N, .slice ao xs.length cap, .slice so su.length sc, .slice tO sb.length tc]] w fun e w' => e = .returned (.bool (pchk N xs su sb)) ∧ Below w.heap.size w w' := by
 obtain ⟨W, hW⟩ : ∃ W, W = w.alloc (.cells #[.int .i64 N, .slice ao xs.length cap, .slice so su.length sc, .slice tO sb.length tc] 28) := ⟨_, rfl⟩
 have bW : Below w.heap.size w W := by rw [hW]; exact below_alloc w _
 have B1 : Cel W w.heap.size [.int .i64 N, .slice ao xs.length cap, .slice so su.length sc, .slice tO sb.length tc] 28 := by rw [hW]; exact Cel.new w _ _
 cases hk : chk N xs with
 | false =>
  have R : Hid (pchk N xs su sb = false) := by show pchk N xs su sb = false; unfold pchk; rw [hk]; rfl
  have C1 : Hid (∀ w0, w0 = W → Calls Tryz.prog 12 #[.agg #[.int .i64 N, .slice ao xs.length cap]] w0 fun e w' => e = .returned (.tuple #[.agg #[.int .i64 0, .slice none 0 0, .slice none 0 0, .slice none 0 0], .int .i64 2]) ∧ Below w0.heap.size w0 w') := fun w0 h => by subst h; exact rbuild_bad N ao xs cap w0 (hx.keep bW) hf hk
  go_enter Tryz.func41, Tryz.ntmps41
  go_wp2_with fail
  rw [← hW]
  refine (C1.out _ rfl).mono ?_
  rintro e w1 ⟨rfl, hb⟩
  have bw1 := bW.trans (hb.mono bW.size)
  go_wp2
  go_ret
  rw [R.out]
  exact ⟨rfl, bw1.alloc (Nat.le_trans (Nat.le_refl _) bw1.size) _⟩
 | true =>
  obtain ⟨h0, h1, h2, _⟩ := chk_out N xs hk
  have hlx : xs.length ≤ 1048576 := by omega
  have C1 : Hid (∀ w0, w0 = W → Calls Tryz.prog 12 #[.agg #[.int .i64 N, .slice ao xs.length cap]] w0 fun e w' => ∃ po pc qo qc, e = .returned (.tuple #[.agg #[.int .i64 N, .slice ao xs.length cap, .slice po (supL N xs).length pc, .slice qo (subL N xs).length qc], .int .i64 0]) ∧ Nd w' po (supL N xs) ∧ (supL N xs).length ≤ pc ∧ Nd w' qo (subL N xs) ∧ (subL N xs).length ≤ qc ∧ Below w0.heap.size w0 w' ∧ Fr w0.heap.size po ∧ Fr w0.heap.size qo) := fun w0 h => by subst h; exact rbuild_ok N ao xs cap w0 (hx.keep bW) hf hk
  clear h2
  go_enter Tryz.func41, Tryz.ntmps41
  go_wp2_with fail
  rw [← hW]
  refine (C1.out _ rfl).mono ?_
  rintro e w1 ⟨po, pc, qo, qc, rfl, n1, n2, n3, n4, hb, -, -⟩
  have bw1 := bW.trans (hb.mono bW.size)
  replace B1 := B1.kept hb
  have hlt := B1.lt
  obtain ⟨V, hV⟩ : ∃ V, V = w1.alloc (.cells #[.int .i64 N, .slice ao xs.length cap, .slice po (supL N xs).length pc, .slice qo (subL N xs).length qc] 28) := ⟨_, rfl⟩
  have bV : Below w1.heap.size w1 V := by rw [hV]; exact below_alloc w1 _
  have bwV := bw1.trans (bV.mono bw1.size)
  have C2 : Hid (∀ w0, w0 = V → Calls Tryz.prog 72 #[.agg #[.int .i64 N, .slice ao xs.length cap, .slice so su.length sc, .slice tO sb.length tc], .agg #[.int .i64 N, .slice ao xs.length cap, .slice po (supL N xs).length pc, .slice qo (subL N xs).length qc]] w0 fun e w' => e = .returned (.bool (pchk N xs su sb)) ∧ Below w0.heap.size w0 w') := fun w0 h => by
   subst h
   have := rsame_c N ao xs cap so su sc tO sb tc N ao xs cap po (supL N xs) pc qo (subL N xs) qc w0 (hx.keep bwV) (hx.keep bwV) hlx (s1.keep bwV) (n1.keep bV) sl (t1.keep bwV) (n3.keep bV) tl
   rw [pchk_eq N xs su sb hk] at this
   exact this
  have r0 := B1.cell 0 rfl
  have r1 := B1.cell 1 rfl
  have r2 := B1.cell 2 rfl
  have r3 := B1.cell 3 rfl
  clear hb C1 hW bW W
  go_wp2_with fail
  rw [← hV]
  refine (C2.out _ rfl).mono ?_
  rintro e w2 ⟨rfl, hb2⟩
  have bw2 := bwV.trans (hb2.mono bwV.size)
  go_wp2
  go_ret
  exact ⟨rfl, bw2⟩
def piA (N : Int) (xs : List Nat) (su sb : List Int) (ao : Option Addr) : Option Addr := if pchk N xs su sb then ao else none
def piC (N : Int) (xs : List Nat) (su sb : List Int) (cap : Nat) : Nat := if pchk N xs su sb then cap else 0
theorem pi_wd {w : World} {ao : Option Addr} {xs : List Nat} (N : Int) (su sb : List Int) (hx : Wd w ao xs) : Wd w (piA N xs su sb ao) (piX N xs su sb) := by
 unfold piA piX
 cases pchk N xs su sb with
 | false => exact wd0' _ _
 | true => exact hx
theorem pi_cap (N : Int) (xs : List Nat) (su sb : List Int) (cap : Nat) (h : xs.length ≤ cap) : (piX N xs su sb).length ≤ piC N xs su sb cap := by
 unfold piC piX
 cases pchk N xs su sb with
 | false => exact Nat.le_refl _
 | true => exact h
theorem pi_fit (N : Int) (xs : List Nat) (su sb : List Int) (h : Fit xs) : Fit (piX N xs su sb) := by
 unfold piX
 cases pchk N xs su sb with
 | false => intro i; unfold gt; simp
 | true => exact h
set_option maxHeartbeats 2000000 in
theorem rwhole_c (N : Int) (ao : Option Addr) (xs : List Nat) (cap : Nat) (so : Option Addr) (su : List Int) (sc : Nat) (tO : Option Addr) (sb : List Int) (tc : Nat) (w : World)
  (hx : Wd w ao xs) (hf : Fit xs) (hcap : xs.length ≤ cap) (s1 : Nd w so su) (sl : su.length ≤ 1048576) (t1 : Nd w tO sb) (tl : sb.length ≤ 1048576) :
  Calls Tryz.prog 69 #[.agg #[.int .i64 N, .slice ao xs.length cap, .slice so su.length sc, .slice tO sb.length tc]] w fun e w' => e = .returned (.tuple #[.agg #[.int .i64 (piN N xs su sb), .slice (piA N xs su sb ao) (piX N xs su sb).length (piC N xs su sb cap)], .bool (pchk N xs su sb)]) ∧ Below w.heap.size w w' := by
 obtain ⟨W, hW⟩ : ∃ W, W = (w.alloc (.cells #[.int .i64 N, .slice ao xs.length cap, .slice so su.length sc, .slice tO sb.length tc] 28)).alloc (.cells #[.int .i64 0, .slice none 0 0] 24) := ⟨_, rfl⟩
 have bW : Below w.heap.size w W := by rw [hW]; exact (below_alloc w _).alloc (by simp) _
 have B1 : Cel W w.heap.size [.int .i64 N, .slice ao xs.length cap, .slice so su.length sc, .slice tO sb.length tc] 28 := by rw [hW]; exact (Cel.new w _ _).alloc _
 have B2 : Cel W (w.heap.size + 1) [.int .i64 0, .slice none 0 0] 24 := by rw [hW]; exact Cel.new2 w _ _ _
 have C1 : Hid (∀ w0, w0 = W → Calls Tryz.prog 41 #[.agg #[.int .i64 N, .slice ao xs.length cap, .slice so su.length sc, .slice tO sb.length tc]] w0 fun e w' => e = .returned (.bool (pchk N xs su sb)) ∧ Below w0.heap.size w0 w') := fun w0 h => by
  subst h
  exact rcheckp_c N ao xs cap so su sc tO sb tc w0 (hx.keep bW) hf hcap (s1.keep bW) sl (t1.keep bW) tl
 unfold piN piX piA piC
 cases hk : pchk N xs su sb with
 | false =>
  rw [hk] at C1
  go_enter Tryz.func69, Tryz.ntmps69
  go_wp2_with fail
  rw [← hW]
  refine (C1.out _ rfl).mono ?_
  rintro e w1 ⟨rfl, hb⟩
  have bw1 := bW.trans (hb.mono bW.size)
  replace B2 := B2.kept hb
  have y0 := B2.cell 0 rfl
  have y1 := B2.cell 1 rfl
  have f0 := B2.frozen 0
  have f1 := B2.frozen 1
  have hC := (B2.set 0 (.int .i64 0)).set 1 (.slice none 0 0)
  have HB := below_set (below_set bw1 (w.heap.size + 1) 0 (.int .i64 0) (Nat.le_succ _)) (w.heap.size + 1) 1 (.slice none 0 0) (Nat.le_succ _)
  have k0 := hC.cell 0 rfl
  have k1 := hC.cell 1 rfl
  go_wp2
  exact bodyPost_ret (v := .tuple #[.agg #[.int .i64 0, .slice none 0 0], .bool false]) (by simp [results, Tryz.results69, go_sem, k0, k1]) rfl ⟨rfl, HB⟩
 | true =>
  rw [hk] at C1
  go_enter Tryz.func69, Tryz.ntmps69
  go_wp2_with fail
  rw [← hW]
  refine (C1.out _ rfl).mono ?_
  rintro e w1 ⟨rfl, hb⟩
  have bw1 := bW.trans (hb.mono bW.size)
  replace B2 := B2.kept hb
  replace B1 := B1.kept hb
  have r0 := B1.cell 0 rfl
  have r1 := B1.cell 1 rfl
  have y0 := B2.cell 0 rfl
  have y1 := B2.cell 1 rfl
  have f0 := B2.frozen 0
  have f1 := B2.frozen 1
  have hC := (B2.set 0 (.int .i64 N)).set 1 (.slice ao xs.length cap)
  have HB := below_set (below_set bw1 (w.heap.size + 1) 0 (.int .i64 N) (Nat.le_succ _)) (w.heap.size + 1) 1 (.slice ao xs.length cap) (Nat.le_succ _)
  have k0 := hC.cell 0 rfl
  have k1 := hC.cell 1 rfl
  go_wp2
  exact bodyPost_ret (v := .tuple #[.agg #[.int .i64 N, .slice ao xs.length cap], .bool true]) (by simp [results, Tryz.results69, go_sem, k0, k1]) rfl ⟨rfl, HB⟩
set_option maxHeartbeats 2000000 in
theorem rsize_c (N : Int) (ao : Option Addr) (xs : List Nat) (cap : Nat) (so : Option Addr) (su : List Int) (sc : Nat) (tO : Option Addr) (sb : List Int) (tc : Nat) (w : World)
  (hx : Wd w ao xs) (hf : Fit xs) (hcap : xs.length ≤ cap) (s1 : Nd w so su) (sl : su.length ≤ 1048576) (t1 : Nd w tO sb) (tl : sb.length ≤ 1048576) :
  Calls Tryz.prog 16 #[.agg #[.int .i64 N, .slice ao xs.length cap, .slice so su.length sc, .slice tO sb.length tc]] w fun e w' => e = .returned (.int .i64 (pzN N xs su sb)) ∧ Below w.heap.size w w' := by
 obtain ⟨W, hW⟩ : ∃ W, W = w.alloc (.cells #[.int .i64 N, .slice ao xs.length cap, .slice so su.length sc, .slice tO sb.length tc] 28) := ⟨_, rfl⟩
 have bW : Below w.heap.size w W := by rw [hW]; exact below_alloc w _
 have B1 : Cel W w.heap.size [.int .i64 N, .slice ao xs.length cap, .slice so su.length sc, .slice tO sb.length tc] 28 := by rw [hW]; exact Cel.new w _ _
 have C1 : Hid (∀ w0, w0 = W → Calls Tryz.prog 41 #[.agg #[.int .i64 N, .slice ao xs.length cap, .slice so su.length sc, .slice tO sb.length tc]] w0 fun e w' => e = .returned (.bool (pchk N xs su sb)) ∧ Below w0.heap.size w0 w') := fun w0 h => by
  subst h
  exact rcheckp_c N ao xs cap so su sc tO sb tc w0 (hx.keep bW) hf hcap (s1.keep bW) sl (t1.keep bW) tl
 unfold pzN
 cases hk : pchk N xs su sb with
 | false =>
  rw [hk] at C1
  go_enter Tryz.func16, Tryz.ntmps16
  go_wp2_with fail
  rw [← hW]
  refine (C1.out _ rfl).mono ?_
  rintro e w1 ⟨rfl, hb⟩
  have bw1 := bW.trans (hb.mono bW.size)
  go_wp2
  go_ret
  exact ⟨rfl, bw1⟩
 | true =>
  obtain ⟨h1, -, -⟩ := pchk_out N xs su sb hk
  obtain ⟨h2, h3, -, -⟩ := chk_out N xs h1
  rw [hk] at C1
  go_enter Tryz.func16, Tryz.ntmps16
  go_wp2_with fail
  rw [← hW]
  refine (C1.out _ rfl).mono ?_
  rintro e w1 ⟨rfl, hb⟩
  have bw1 := bW.trans (hb.mono bW.size)
  replace B1 := B1.kept hb
  have r0 := B1.cell 0 rfl
  have r1 := B1.cell 1 rfl
  have r2 := B1.cell 2 rfl
  have r3 := B1.cell 3 rfl
  go_wp2
  go_ret
  exact ⟨rfl, bw1⟩
end Go.Proofs.YtcaalcjcpddhaaaGreat
namespace Go.Proofs.YtcaalcjcpddhaaaGreat
open Go.RowKit Num Bit
end Go.Proofs.YtcaalcjcpddhaaaGreat
namespace Go.Proofs.YtcaalcjcpddhaaaGreat
open Go.RowKit Num Bit
structure PlIn (w : World) (N : Int) (ao : Option Addr) (xs : List Nat) (cap : Nat) (so : Option Addr) (su : List Int) (sc : Nat) (tO : Option Addr) (sb : List Int) (tc : Nat) : Prop where
 n : -9223372036854775808 ≤ N ∧ N ≤ 9223372036854775807
 x : Wd w ao xs
 f : Fit xs
 c : xs.length ≤ cap
 l : xs.length ≤ 1048576
 s : Nd w so su
 sf : FitI su
 sc : su.length ≤ sc
 sl : su.length ≤ 1048576
 t : Nd w tO sb
 tf : FitI sb
 tc : sb.length ≤ tc
 tl : sb.length ≤ 1048576
structure PlArg (w : World) (N : Int) (ao : Option Addr) (xs : List Nat) (cap : Nat) (so : Option Addr) (su : List Int) (sc : Nat) (tO : Option Addr) (sb : List Int) (tc : Nat) : Prop where
 n : -9223372036854775808 ≤ N ∧ N ≤ 9223372036854775807
 x : Wd w ao xs
 f : Fit xs
 c : xs.length ≤ cap
 s : Nd w so su
 sf : FitI su
 sc : su.length ≤ sc
 t : Nd w tO sb
 tf : FitI sb
 tc : sb.length ≤ tc
theorem fit_sup (N : Int) (xs : List Nat) : FitI (supL N xs) := by
 intro i
 by_cases c : i < (supL N xs).length
 ·unfold supL at c ⊢
  rw [length_supP] at c
  rw [gi_supP _ _ _ _ c]
  have := supI_bound N xs i
  omega
 ·unfold gi
  rw [List.getD_eq_getElem?_getD, List.getElem?_eq_none (by omega)]
  decide
theorem fit_sub (N : Int) (xs : List Nat) : FitI (subL N xs) := by
 intro i
 by_cases c : i < (subL N xs).length
 ·unfold subL at c ⊢
  rw [length_subP] at c
  rw [gi_subP _ _ _ _ c]
  have := subI_bound N xs i
  omega
 ·unfold gi
  rw [List.getD_eq_getElem?_getD, List.getElem?_eq_none (by omega)]
  decide
theorem PlOut.plin {base : Nat} {w : World} {bo : Option Addr} {bc : Nat} {so : Option Addr} {sc : Nat} {tO : Option Addr} {tc : Nat} (N : Int) (xs : List Nat) (hn : -9223372036854775808 ≤ N ∧ N ≤ 9223372036854775807) (hf : Fit xs) (hl : xs.length ≤ 1048576) (h : PlOut base w bo (pbX N xs) bc so (pbS N xs) sc tO (pbT N xs) tc) :
  PlIn w (pbN N xs) bo (pbX N xs) bc so (pbS N xs) sc tO (pbT N xs) tc := by
 have e1 : -9223372036854775808 ≤ pbN N xs ∧ pbN N xs ≤ 9223372036854775807 := by unfold pbN; split <;> omega
 have e2 : Fit (pbX N xs) := by
  unfold pbX
  split
  ·exact hf
  ·intro i; unfold gt; simp
 have e3 : (pbX N xs).length ≤ 1048576 := by
  unfold pbX
  split
  ·exact hl
  ·simp
 have e4 : FitI (pbS N xs) := by
  unfold pbS
  split
  ·exact fit_sup N xs
  ·intro i; unfold gi; simp
 have e5 : (pbS N xs).length ≤ 1048576 := by
  unfold pbS
  split
  ·rename_i hk
   obtain ⟨h0, h1, _, _⟩ := chk_out N xs hk
   rw [length_supL]; omega
  ·simp
 have e6 : FitI (pbT N xs) := by
  unfold pbT
  split
  ·exact fit_sub N xs
  ·intro i; unfold gi; simp
 have e7 : (pbT N xs).length ≤ 1048576 := by
  unfold pbT
  split
  ·rw [length_subL]; omega
  ·simp
 exact ⟨e1, h.x, e2, h.xc, e3, h.s, e4, h.sc, e5, h.t, e6, h.tc, e7⟩
end Go.Proofs.YtcaalcjcpddhaaaGreat
namespace Go.Proofs.YtcaalcjcpddhaaaGreat
open Go.RowKit Go.Extern.Stop Go.Stop Go.Extern
end Go.Proofs.YtcaalcjcpddhaaaGreat
namespace Go.Proofs.YtcaalcjcpddhaaaGreat
open Num
namespace Bit
end Bit
end Go.Proofs.YtcaalcjcpddhaaaGreat
namespace Go.Proofs.YtcaalcjcpddhaaaGreat
open Num
namespace Bit
def ichk (N W M : Int) (xs : List Nat) : Bool := decide (1 ≤ W ∧ W ≤ 64 ∧ 0 ≤ N ∧ N * W = M) && chk M xs
theorem ichk_out (N W M : Int) (xs : List Nat) (h : ichk N W M xs = true) : 1 ≤ W ∧ W ≤ 64 ∧ 0 ≤ N ∧ N * W = M ∧ chk M xs = true ∧ 0 ≤ M ∧ M ≤ 1048576 ∧ N ≤ M := by
 unfold ichk at h
 rw [Bool.and_eq_true, decide_eq_true_eq] at h
 obtain ⟨⟨a, b, c, d⟩, e⟩ := h
 obtain ⟨f, g, _, _⟩ := chk_out M xs e
 refine ⟨a, b, c, d, e, f, g, ?_⟩
 have := Int.mul_le_mul_of_nonneg_left a c
 omega
def numAt (W : Nat) (xs : List Nat) (i : Nat) : Nat := numOf W (fun k => bitAt xs (i * W + k))
def igE (N W M : Int) (xs : List Nat) (i : Int) : Int := if ichk N W M xs = false then 2 else if i < 0 ∨ N ≤ i then 3 else 0
def igX (N W M : Int) (xs : List Nat) (i : Int) : Nat := if igE N W M xs i = 0 then numAt W.toNat xs i.toNat else 0
def imE (W : Int) (l : List Nat) : Int := if W < 1 ∨ 64 < W ∨ 1048576 < (l.length : Int) * W ∨ ¬ (∀ j, j < l.length → lenI (gt l j) ≤ W) then 2 else 0
def imN (W : Int) (l : List Nat) : Int := if imE W l = 0 then (l.length : Int) else 0
def imW (W : Int) (l : List Nat) : Int := if imE W l = 0 then W else 0
def imM (W : Int) (l : List Nat) : Int := if imE W l = 0 then (l.length : Int) * W else 0
def mkS (l : List Nat) (W k : Nat) : List Nat := rowOf (l.length * W) (fun j => decide (j < k * W) && (gt l (j / W)).testBit (j % W))
def imL (W : Int) (l : List Nat) : List Nat := if imE W l = 0 then mkS l W.toNat l.length else []
theorem igE_zero (N W M : Int) (xs : List Nat) (i : Int) (hE : igE N W M xs i = 0) : ichk N W M xs = true ∧ 0 ≤ i ∧ i < N := by
 unfold igE at hE
 cases h : ichk N W M xs with
 | false => rw [if_pos h] at hE; omega
 | true =>
  rw [if_neg (by simp [h])] at hE
  by_cases c : i < 0 ∨ N ≤ i
  ·rw [if_pos c] at hE; omega
  ·exact ⟨rfl, by omega, by omega⟩
theorem igE_of (N W M : Int) (xs : List Nat) (i : Int) (hk : ichk N W M xs = true) (h0 : 0 ≤ i) (h1 : i < N) : igE N W M xs i = 0 := by
 unfold igE
 rw [if_neg (by simp [hk]), if_neg (by omega)]
theorem get_place (N W M i : Int) (a1 : 1 ≤ W) (a2 : W ≤ 64) (a3 : 0 ≤ N) (a4 : N * W = M) (a7 : M ≤ 1048576) (i0 : 0 ≤ i) (i1 : i < N) : 0 ≤ i * W ∧ i * W + W ≤ M ∧ i * W ≤ M - W ∧ i * W ≤ 1048576 := by
 have h1 := Int.mul_nonneg i0 (show 0 ≤ W by omega)
 have h2 := Int.mul_le_mul_of_nonneg_right (show i + 1 ≤ N by omega) (show 0 ≤ W by omega)
 rw [Int.add_mul, Int.one_mul] at h2
 omega
theorem get_slice (N W M : Int) (xs : List Nat) (i : Int) (hk : ichk N W M xs = true) (i0 : 0 ≤ i) (i1 : i < N) : slcX M xs (i * W) W = igX N W M xs i ∧ slcE M xs (i * W) W = igE N W M xs i := by
 obtain ⟨a1, a2, a3, a4, a5, a6, a7, a8⟩ := ichk_out N W M xs hk
 obtain ⟨q1, q2, q3, q4⟩ := get_place N W M i a1 a2 a3 a4 a7 i0 i1
 have e := igE_of N W M xs i hk i0 i1
 have e2 : slcE M xs (i * W) W = 0 := by
  unfold slcE
  rw [if_neg (by simp [a5]; omega), if_neg (by omega)]
 refine ⟨?_, by rw [e, e2]⟩
 unfold slcX igX numAt
 rw [if_pos e, if_pos e2, Int.toNat_mul i0 (by omega)]
/-! What lay makes of the words. -/
theorem length_mkS (l : List Nat) (W k : Nat) : (mkS l W k).length = (l.length * W + 63) / 64 := length_rowOf _ _
theorem fit_mkS (l : List Nat) (W k : Nat) : Fit (mkS l W k) := fit_rowOf _ _
theorem mul_next (n W k : Nat) (h : k < n) : k * W + W ≤ n * W := by
 have := Nat.mul_le_mul_right W (show k + 1 ≤ n by omega)
 rw [Nat.add_mul, Nat.one_mul] at this
 exact this
end Bit
end Go.Proofs.YtcaalcjcpddhaaaGreat
