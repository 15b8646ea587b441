/-
  The contracts of the program's Build, Bits, Size, Access, Rank and Select.
-/
import Derived.Test.YtcgnphffjfffgaaPk
import Derived.Test.YtcgnphffjfffgaaPf
import Derived.Test.YtcgnphffjfffgaaGet
namespace Go.Proofs.Ytcgnphffjfffgaa
open Go.RowKit Num Bit
set_option linter.unusedVariables false
set_option linter.unusedSimpArgs false
set_option maxRecDepth 100000

set_option maxHeartbeats 2000000 in
theorem pbuild_bad (N : Int) (ao : Option Addr) (xs : List Nat) (cap : Nat) (w : World) (hx : Wd w ao xs) (hk : chk N xs = false) :
    Calls Try.prog 9 #[.agg #[.int .i64 N, .slice ao xs.length cap]] w fun e w' => e = .returned (.tuple #[.agg #[.int .i64 0, .slice none 0 0, .slice none 0 0, .slice none 0 0], .int .i64 2]) ∧ Below w.heap.size w w' := by
  obtain ⟨W, hW⟩ : ∃ W, W = (w.alloc (.cells #[.int .i64 N, .slice ao xs.length cap] 24)).alloc (.cells #[.int .i64 0, .slice none 0 0, .slice none 0 0, .slice none 0 0] 29) := ⟨_, rfl⟩
  have bW : Below w.heap.size w W := by rw [hW]; exact (below_alloc w _).alloc (by simp) _
  have B2 : Cel W (w.heap.size + 1) [.int .i64 0, .slice none 0 0, .slice none 0 0, .slice none 0 0] 29 := by rw [hW]; exact Cel.new2 w _ _ _
  have C1 : Hid (∀ w0, w0 = W → Calls Try.prog 28 #[.agg #[.int .i64 N, .slice ao xs.length cap]] w0 fun e w' => e = .returned (.bool false) ∧ Below w0.heap.size w0 w') := fun w0 h => by
    subst h
    have := check_c N ao xs cap w0 (hx.keep bW)
    rw [hk] at this
    exact this
  go_enter Try.func9, Try.ntmps9
  go_wp2_with fail
  rw [← hW]
  refine (C1.out _ rfl).mono ?_
  rintro e w1 ⟨rfl, hb⟩
  have bw1 := bW.trans (hb.mono bW.size)
  replace B2 := B2.kept hb
  clear hb C1 hW bW W
  have y0 := B2.cell 0 rfl
  have y1 := B2.cell 1 rfl
  have y2 := B2.cell 2 rfl
  have y3 := B2.cell 3 rfl
  have f0 := B2.frozen 0
  have f1 := B2.frozen 1
  have f2 := B2.frozen 2
  have f3 := B2.frozen 3
  have hC := (((B2.set 0 (.int .i64 0)).set 1 (.slice none 0 0)).set 2 (.slice none 0 0)).set 3 (.slice none 0 0)
  have HB := below_set (below_set (below_set (below_set bw1 (w.heap.size + 1) 0 (.int .i64 0) (Nat.le_succ _)) (w.heap.size + 1) 1 (.slice none 0 0) (Nat.le_succ _)) (w.heap.size + 1) 2 (.slice none 0 0) (Nat.le_succ _)) (w.heap.size + 1) 3 (.slice none 0 0) (Nat.le_succ _)
  have k0 := hC.cell 0 rfl
  have k1 := hC.cell 1 rfl
  have k2 := hC.cell 2 rfl
  have k3 := hC.cell 3 rfl
  go_wp2
  exact bodyPost_ret (v := .tuple #[.agg #[.int .i64 0, .slice none 0 0, .slice none 0 0, .slice none 0 0], .int .i64 2]) (by simp [results, Try.results9, go_sem, k0, k1, k2, k3]) rfl ⟨rfl, HB⟩
theorem build_p (N : Int) (ao : Option Addr) (xs : List Nat) (cap : Nat) (w : World) (hN : -9223372036854775808 ≤ N ∧ N ≤ 9223372036854775807) (hx : Wd w ao xs) (hf : Fit xs) (hcap : xs.length ≤ cap) (hl : xs.length ≤ 1048576) :
    Calls Try.prog 9 #[.agg #[.int .i64 N, .slice ao xs.length cap]] w fun e w' => ∃ bo bc so sc tO tc, e = .returned (.tuple #[.agg #[.int .i64 (pbN N xs), .slice bo (pbX N xs).length bc, .slice so (pbS N xs).length sc, .slice tO (pbT N xs).length tc], .int .i64 (pbE N xs)]) ∧ PlOut w' bo (pbX N xs) bc so (pbS N xs) sc tO (pbT N xs) tc ∧ Below w.heap.size w w' := by
  unfold pbN pbX pbS pbT pbE
  cases hk : chk N xs with
  | false =>
    refine (pbuild_bad N ao xs cap w hx hk).mono ?_
    rintro e w' ⟨rfl, hb⟩
    exact ⟨none, 0, none, 0, none, 0, rfl, ⟨wd0' _ _, Nat.le_refl _, nd0 _ _, Nat.le_refl _, nd0 _ _, Nat.le_refl _⟩, hb⟩
  | true =>
    obtain ⟨m, rfl, hm, hlen⟩ := chk_len N xs hk
    refine (pbuild_ok m ao xs cap w hx hf hcap hk hm hlen).mono ?_
    rintro e w' ⟨bo, bc, so, sc, tO, tc, rfl, h1, hb⟩
    exact ⟨bo, bc, so, sc, tO, tc, rfl, h1, hb⟩

set_option maxHeartbeats 2000000 in
theorem bits_p (N : Int) (ao : Option Addr) (xs : List Nat) (cap : Nat) (so : Option Addr) (su : List Int) (sc : Nat) (tO : Option Addr) (sb : List Int) (tc : Nat) (w : World) (h : PlIn w N ao xs cap so su sc tO sb tc) :
    Calls Try.prog 24 #[.agg #[.int .i64 N, .slice ao xs.length cap, .slice so su.length sc, .slice tO sb.length tc]] w fun e w' => ∃ bo bc, e = .returned (.agg #[.int .i64 (piN N xs su sb), .slice bo (piX N xs su sb).length bc]) ∧ Wd w' bo (piX N xs su sb) ∧ (piX N xs su sb).length ≤ bc ∧ Below w.heap.size w w' := by
  unfold piN piX
  obtain ⟨W, hW⟩ : ∃ W, W = (w.alloc (.cells #[.int .i64 N, .slice ao xs.length cap, .slice so su.length sc, .slice tO sb.length tc] 29)).alloc (.cells #[.int .i64 0, .slice none 0 0] 24) := ⟨_, rfl⟩
  have bW : Below w.heap.size w W := by rw [hW]; exact (below_alloc w _).alloc (by simp) _
  have B1 : Cel W w.heap.size [.int .i64 N, .slice ao xs.length cap, .slice so su.length sc, .slice tO sb.length tc] 29 := by rw [hW]; exact (Cel.new w _ _).alloc _
  have B2 : Cel W (w.heap.size + 1) [.int .i64 0, .slice none 0 0] 24 := by rw [hW]; exact Cel.new2 w _ _ _
  have C1 : Hid (∀ w0, w0 = W → Calls Try.prog 21 #[.agg #[.int .i64 N, .slice ao xs.length cap, .slice so su.length sc, .slice tO sb.length tc]] w0 fun e w' => e = .returned (.bool (pchk N xs su sb)) ∧ Below w0.heap.size w0 w') := fun w0 e0 => by subst e0; exact check_p N ao xs cap so su sc tO sb tc w0 (h.keep bW)
  cases hk : pchk N xs su sb with
  | false =>
    simp only [Bool.false_eq_true, if_false]
    rw [hk] at C1
    go_enter Try.func24, Try.ntmps24
    go_wp2_with fail
    rw [← hW]
    refine (C1.out _ rfl).mono ?_
    rintro e w1 ⟨rfl, hb⟩
    have bw1 := bW.trans (hb.mono bW.size)
    replace B1 := B1.kept hb
    replace B2 := B2.kept hb
    clear hb C1 hW bW W
    have y0 := B2.cell 0 rfl
    have y1 := B2.cell 1 rfl
    have f0 := B2.frozen 0
    have f1 := B2.frozen 1
    have hC := (B2.set 0 (.int .i64 0)).set 1 (.slice none 0 0)
    have HB := below_set (below_set bw1 (w.heap.size + 1) 0 (.int .i64 0) (Nat.le_succ _)) (w.heap.size + 1) 1 (.slice none 0 0) (Nat.le_succ _)
    have k0 := hC.cell 0 rfl
    have k1 := hC.cell 1 rfl
    go_wp2
    exact bodyPost_ret (v := .agg #[.int .i64 0, .slice none 0 0]) (by simp [results, Try.results24, go_sem, k0, k1]) rfl ⟨none, 0, rfl, wd0' _ _, Nat.le_refl _, HB⟩
  | true =>
    simp only [if_true]
    rw [hk] at C1
    have C2 : Hid (∀ w0, Below w.heap.size w w0 → Calls Try.prog 29 #[.agg #[.int .i64 N, .slice ao xs.length cap]] w0 fun e w' => ∃ bo bc, e = .returned (.agg #[.int .i64 N, .slice bo xs.length bc]) ∧ Wd w' bo xs ∧ xs.length ≤ bc ∧ Below w0.heap.size w0 w') := fun w0 hb => pcopied_c N ao xs cap w0 (h.x.keep hb) h.l
    clear h
    go_enter Try.func24, Try.ntmps24
    go_wp2_with fail
    rw [← hW]
    refine (C1.out _ rfl).mono ?_
    rintro e w1 ⟨rfl, hb⟩
    have bw1 := bW.trans (hb.mono bW.size)
    replace B1 := B1.kept hb
    replace B2 := B2.kept hb
    clear hb C1 hW bW W
    have r0 := B1.cell 0 rfl
    have r1 := B1.cell 1 rfl
    go_wp2_with fail
    refine (C2.out _ bw1).mono ?_
    rintro e w2 ⟨bo, bc, rfl, hW2, hbc, hb⟩
    have bw2 := bw1.trans (hb.mono bw1.size)
    replace B2 := B2.kept hb
    clear hb bw1 r0 r1 C2
    have y0 := B2.cell 0 rfl
    have y1 := B2.cell 1 rfl
    have f0 := B2.frozen 0
    have f1 := B2.frozen 1
    have hC := (B2.set 0 (.int .i64 N)).set 1 (.slice bo xs.length bc)
    have oW := ((Only.refl (w.heap.size + 1) w2).set 0 (.int .i64 N)).set 1 (.slice bo xs.length bc)
    have hWd := oW.wd hW2 (hW2.apart B2 (by intro v hv n; simp at hv; rcases hv with rfl | rfl <;> simp))
    have HB := bw2.trans (oW.below (Nat.le_succ _))
    have k0 := hC.cell 0 rfl
    have k1 := hC.cell 1 rfl
    have HF := And.intro hWd HB
    replace HF := Hid.mk' HF
    clear hWd HB oW hC hW2 bw2
    go_wp2
    exact bodyPost_ret (v := .agg #[.int .i64 N, .slice bo xs.length bc]) (by simp [results, Try.results24, go_sem, k0, k1]) rfl ⟨bo, bc, rfl, HF.out.1, hbc, HF.out.2⟩

set_option maxHeartbeats 2000000 in
theorem size_p (N : Int) (ao : Option Addr) (xs : List Nat) (cap : Nat) (so : Option Addr) (su : List Int) (sc : Nat) (tO : Option Addr) (sb : List Int) (tc : Nat) (w : World) (h : PlIn w N ao xs cap so su sc tO sb tc) :
    Calls Try.prog 14 #[.agg #[.int .i64 N, .slice ao xs.length cap, .slice so su.length sc, .slice tO sb.length tc]] w fun e w' => e = .returned (.int .i64 (pzN N xs su sb)) ∧ Below w.heap.size w w' := by
  unfold pzN
  obtain ⟨W, hW⟩ : ∃ W, W = w.alloc (.cells #[.int .i64 N, .slice ao xs.length cap, .slice so su.length sc, .slice tO sb.length tc] 29) := ⟨_, rfl⟩
  have bW : Below w.heap.size w W := by rw [hW]; exact below_alloc w _
  have B1 : Cel W w.heap.size [.int .i64 N, .slice ao xs.length cap, .slice so su.length sc, .slice tO sb.length tc] 29 := by rw [hW]; exact Cel.new w _ _
  have C1 : Hid (∀ w0, w0 = W → Calls Try.prog 21 #[.agg #[.int .i64 N, .slice ao xs.length cap, .slice so su.length sc, .slice tO sb.length tc]] w0 fun e w' => e = .returned (.bool (pchk N xs su sb)) ∧ Below w0.heap.size w0 w') := fun w0 e0 => by subst e0; exact check_p N ao xs cap so su sc tO sb tc w0 (h.keep bW)
  cases hk : pchk N xs su sb with
  | false =>
    simp only [Bool.false_eq_true, if_false]
    rw [hk] at C1
    go_enter Try.func14, Try.ntmps14
    go_wp2_with fail
    rw [← hW]
    refine (C1.out _ rfl).mono ?_
    rintro e w1 ⟨rfl, hb⟩
    have bw1 := bW.trans (hb.mono bW.size)
    replace B1 := B1.kept hb
    clear hb C1 hW bW W
    go_wp2
    go_ret
    exact ⟨rfl, bw1⟩
  | true =>
    simp only [if_true]
    rw [hk] at C1
    obtain ⟨m, rfl, hm, hl, z1, z2, z3⟩ := pchk_nat _ _ _ _ hk
    clear z1 z2 z3
    have l1 := h.sl
    have l2 := h.tl
    obtain ⟨A, hA⟩ : ∃ A, A = su.length := ⟨_, rfl⟩
    obtain ⟨B, hB⟩ : ∃ B, B = sb.length := ⟨_, rfl⟩
    rw [← hA] at l1 B1 ⊢
    rw [← hB] at l2 B1 ⊢
    rw [← hA, ← hB] at C1 hW
    clear h hl hk hA hB
    go_enter Try.func14, Try.ntmps14
    go_wp2_with fail
    rw [← hW]
    refine (C1.out _ rfl).mono ?_
    rintro e w1 ⟨rfl, hb⟩
    have bw1 := bW.trans (hb.mono bW.size)
    replace B1 := B1.kept hb
    clear hb C1 hW bW W
    have x0 := B1.cell 0 rfl
    have x2 := B1.cell 2 rfl
    have x3 := B1.cell 3 rfl
    go_wp2
    go_ret
    refine ⟨ret_int ?_, bw1⟩
    first | rfl | omega

set_option maxHeartbeats 2000000 in
theorem access_p (N : Int) (ao : Option Addr) (xs : List Nat) (cap : Nat) (so : Option Addr) (su : List Int) (sc : Nat) (tO : Option Addr) (sb : List Int) (tc : Nat) (i : Int) (w : World) (h : PlIn w N ao xs cap so su sc tO sb tc) (hi : -9223372036854775808 ≤ i ∧ i ≤ 9223372036854775807) :
    Calls Try.prog 11 #[.agg #[.int .i64 N, .slice ao xs.length cap, .slice so su.length sc, .slice tO sb.length tc], .int .i64 i] w fun e w' => e = .returned (.tuple #[.bool (paB N xs su sb i), .int .i64 (paE N xs su sb i)]) ∧ Below w.heap.size w w' := by
  unfold paB paE
  obtain ⟨W, hW⟩ : ∃ W, W = w.alloc (.cells #[.int .i64 N, .slice ao xs.length cap, .slice so su.length sc, .slice tO sb.length tc] 29) := ⟨_, rfl⟩
  have bW : Below w.heap.size w W := by rw [hW]; exact below_alloc w _
  have B1 : Cel W w.heap.size [.int .i64 N, .slice ao xs.length cap, .slice so su.length sc, .slice tO sb.length tc] 29 := by rw [hW]; exact Cel.new w _ _
  have C1 : Hid (∀ w0, w0 = W → Calls Try.prog 21 #[.agg #[.int .i64 N, .slice ao xs.length cap, .slice so su.length sc, .slice tO sb.length tc]] w0 fun e w' => e = .returned (.bool (pchk N xs su sb)) ∧ Below w0.heap.size w0 w') := fun w0 e0 => by subst e0; exact check_p N ao xs cap so su sc tO sb tc w0 (h.keep bW)
  cases hk : pchk N xs su sb with
  | false =>
    simp only [Bool.false_eq_true, if_false, Bool.false_and]
    rw [hk] at C1
    go_enter Try.func11, Try.ntmps11
    go_wp2_with fail
    rw [← hW]
    refine (C1.out _ rfl).mono ?_
    rintro e w1 ⟨rfl, hb⟩
    have bw1 := bW.trans (hb.mono bW.size)
    replace B1 := B1.kept hb
    clear hb C1 hW bW W
    go_wp2
    go_ret2
    exact ⟨rfl, bw1⟩
  | true =>
    simp only [if_true, Bool.true_and]
    rw [hk] at C1
    have C2 : Hid (∀ w0, Below w.heap.size w w0 → Calls Try.prog 34 #[.agg #[.int .i64 N, .slice ao xs.length cap], .int .i64 i] w0 fun e w' => e = .returned (.tuple #[.bool (getB N xs i), .int .i64 (getE N xs i)]) ∧ Below w0.heap.size w0 w') := fun w0 hb => get_c N ao xs cap i w0 (h.x.keep hb) h.f
    clear h hk
    go_enter Try.func11, Try.ntmps11
    go_wp2_with fail
    rw [← hW]
    refine (C1.out _ rfl).mono ?_
    rintro e w1 ⟨rfl, hb⟩
    have bw1 := bW.trans (hb.mono bW.size)
    replace B1 := B1.kept hb
    clear hb C1 hW bW W
    have x0 := B1.cell 0 rfl
    have x1 := B1.cell 1 rfl
    go_wp2_with fail
    refine (C2.out _ bw1).mono ?_
    rintro e w2 ⟨rfl, hb⟩
    have bw2 := bw1.trans (hb.mono bw1.size)
    clear hb
    go_wp2
    go_ret2
    exact ⟨rfl, bw2⟩

set_option maxHeartbeats 2000000 in
theorem rank_p (N : Int) (ao : Option Addr) (xs : List Nat) (cap : Nat) (so : Option Addr) (su : List Int) (sc : Nat) (tO : Option Addr) (sb : List Int) (tc : Nat) (bit : Bool) (i : Int) (w : World) (h : PlIn w N ao xs cap so su sc tO sb tc) (hi : -9223372036854775808 ≤ i ∧ i ≤ 9223372036854775807) :
    Calls Try.prog 10 #[.agg #[.int .i64 N, .slice ao xs.length cap, .slice so su.length sc, .slice tO sb.length tc], .bool bit, .int .i64 i] w fun e w' => e = .returned (.tuple #[.int .i64 (prN N xs su sb bit i), .int .i64 (prE N xs su sb i)]) ∧ Below w.heap.size w w' := by
  obtain ⟨W, hW⟩ : ∃ W, W = w.alloc (.cells #[.int .i64 N, .slice ao xs.length cap, .slice so su.length sc, .slice tO sb.length tc] 29) := ⟨_, rfl⟩
  have bW : Below w.heap.size w W := by rw [hW]; exact below_alloc w _
  have B1 : Cel W w.heap.size [.int .i64 N, .slice ao xs.length cap, .slice so su.length sc, .slice tO sb.length tc] 29 := by rw [hW]; exact Cel.new w _ _
  have C1 : Hid (∀ w0, w0 = W → Calls Try.prog 21 #[.agg #[.int .i64 N, .slice ao xs.length cap, .slice so su.length sc, .slice tO sb.length tc]] w0 fun e w' => e = .returned (.bool (pchk N xs su sb)) ∧ Below w0.heap.size w0 w') := fun w0 e0 => by subst e0; exact check_p N ao xs cap so su sc tO sb tc w0 (h.keep bW)
  cases hk : pchk N xs su sb with
  | false =>
    have R1 : Hid (prE N xs su sb i = 2) := by show prE N xs su sb i = 2; unfold prE; rw [hk]; rfl
    have R2 : Hid (prN N xs su sb bit i = 0) := by show prN N xs su sb bit i = 0; unfold prN; rw [R1.out]; rfl
    rw [R1.out, R2.out]
    rw [hk] at C1
    go_enter Try.func10, Try.ntmps10
    go_wp2_with fail
    rw [← hW]
    refine (C1.out _ rfl).mono ?_
    rintro e w1 ⟨rfl, hb⟩
    have bw1 := bW.trans (hb.mono bW.size)
    replace B1 := B1.kept hb
    clear hb C1 hW bW W
    go_wp2
    go_ret2
    exact ⟨rfl, bw1⟩
  | true =>
    rw [hk] at C1
    obtain ⟨m, rfl, hm, hl, z1, z2, z3⟩ := pchk_nat _ _ _ _ hk
    clear z1 z2 z3
    by_cases h0 : i < 0 ∨ (m : Int) < i
    · have R1 : Hid (prE (m : Int) xs su sb i = 3) := by show prE (m : Int) xs su sb i = 3; unfold prE; rw [hk, if_pos rfl, if_pos h0]
      have R2 : Hid (prN (m : Int) xs su sb bit i = 0) := by show prN (m : Int) xs su sb bit i = 0; unfold prN; rw [R1.out]; rfl
      rw [R1.out, R2.out]
      clear h hl hk
      by_cases h1 : i < 0
      · go_enter Try.func10, Try.ntmps10
        go_wp2_with fail
        rw [← hW]
        refine (C1.out _ rfl).mono ?_
        rintro e w1 ⟨rfl, hb⟩
        have bw1 := bW.trans (hb.mono bW.size)
        replace B1 := B1.kept hb
        clear hb C1 hW bW W
        go_wp2
        go_ret2
        exact ⟨rfl, bw1⟩
      · have h2 : (m : Int) < i := by omega
        go_enter Try.func10, Try.ntmps10
        go_wp2_with fail
        rw [← hW]
        refine (C1.out _ rfl).mono ?_
        rintro e w1 ⟨rfl, hb⟩
        have bw1 := bW.trans (hb.mono bW.size)
        replace B1 := B1.kept hb
        clear hb C1 hW bW W
        have x0 := B1.cell 0 rfl
        go_wp2
        go_ret2
        exact ⟨rfl, bw1⟩
    · obtain ⟨k, rfl⟩ := Int.eq_ofNat_of_zero_le (show 0 ≤ i by omega)
      have R1 : Hid (prE (m : Int) xs su sb (k : Int) = 0) := by show prE (m : Int) xs su sb (k : Int) = 0; unfold prE; rw [hk, if_pos rfl, if_neg h0]
      have R2 : Hid (prN (m : Int) xs su sb bit (k : Int) = ((cB xs bit k : Nat) : Int)) := by show prN (m : Int) xs su sb bit (k : Int) = _; unfold prN; rw [R1.out, if_pos rfl, Int.toNat_natCast]
      rw [R1.out, R2.out]
      have C2 : Hid (∀ w0, Below w.heap.size w w0 → Calls Try.prog 33 #[.agg #[.int .i64 (m : Int), .slice ao xs.length cap, .slice so su.length sc, .slice tO sb.length tc], .bool bit, .int .i64 (k : Int)] w0 fun e w' => e = .returned (.int .i64 ((cB xs bit k : Nat) : Int)) ∧ Below w0.heap.size w0 w') := fun w0 hb => count_c m ao xs cap so su sc tO sb tc bit k w0 (h.keep hb) hk (by omega)
      have h3 : ¬ (m : Int) < (k : Int) := by omega
      clear h hl hk h0 hi
      go_enter Try.func10, Try.ntmps10
      go_wp2_with fail
      rw [← hW]
      refine (C1.out _ rfl).mono ?_
      rintro e w1 ⟨rfl, hb⟩
      have bw1 := bW.trans (hb.mono bW.size)
      replace B1 := B1.kept hb
      clear hb C1 hW bW W
      have x0 := B1.cell 0 rfl
      have x1 := B1.cell 1 rfl
      have x2 := B1.cell 2 rfl
      have x3 := B1.cell 3 rfl
      go_wp2_with fail
      refine (C2.out _ bw1).mono ?_
      rintro e w2 ⟨rfl, hb⟩
      have bw2 := bw1.trans (hb.mono bw1.size)
      clear hb
      go_wp2
      go_ret2
      exact ⟨rfl, bw2⟩

set_option maxHeartbeats 2000000 in
theorem select_p (N : Int) (ao : Option Addr) (xs : List Nat) (cap : Nat) (so : Option Addr) (su : List Int) (sc : Nat) (tO : Option Addr) (sb : List Int) (tc : Nat) (bit : Bool) (k : Int) (w : World) (h : PlIn w N ao xs cap so su sc tO sb tc) (hk0 : -9223372036854775808 ≤ k ∧ k ≤ 9223372036854775807) :
    Calls Try.prog 19 #[.agg #[.int .i64 N, .slice ao xs.length cap, .slice so su.length sc, .slice tO sb.length tc], .bool bit, .int .i64 k] w fun e w' => e = .returned (.tuple #[.int .i64 (psX N xs su sb bit k), .int .i64 (psE N xs su sb bit k)]) ∧ Below w.heap.size w w' := by
  obtain ⟨W, hW⟩ : ∃ W, W = w.alloc (.cells #[.int .i64 N, .slice ao xs.length cap, .slice so su.length sc, .slice tO sb.length tc] 29) := ⟨_, rfl⟩
  have bW : Below w.heap.size w W := by rw [hW]; exact below_alloc w _
  have B1 : Cel W w.heap.size [.int .i64 N, .slice ao xs.length cap, .slice so su.length sc, .slice tO sb.length tc] 29 := by rw [hW]; exact Cel.new w _ _
  have C1 : Hid (∀ w0, w0 = W → Calls Try.prog 21 #[.agg #[.int .i64 N, .slice ao xs.length cap, .slice so su.length sc, .slice tO sb.length tc]] w0 fun e w' => e = .returned (.bool (pchk N xs su sb)) ∧ Below w0.heap.size w0 w') := fun w0 e0 => by subst e0; exact check_p N ao xs cap so su sc tO sb tc w0 (h.keep bW)
  cases hk : pchk N xs su sb with
  | false =>
    have R1 : Hid (psE N xs su sb bit k = 2) := by show psE N xs su sb bit k = 2; unfold psE; rw [hk]; rfl
    have R2 : Hid (psX N xs su sb bit k = 0) := by show psX N xs su sb bit k = 0; unfold psX; rw [hk]; rfl
    rw [R1.out, R2.out]
    rw [hk] at C1
    go_enter Try.func19, Try.ntmps19
    go_wp2_with fail
    rw [← hW]
    refine (C1.out _ rfl).mono ?_
    rintro e w1 ⟨rfl, hb⟩
    have bw1 := bW.trans (hb.mono bW.size)
    replace B1 := B1.kept hb
    clear hb C1 hW bW W
    go_wp2
    go_ret2
    exact ⟨rfl, bw1⟩
  | true =>
    rw [hk] at C1
    obtain ⟨m, rfl, hm, hl, z1, z2, z3⟩ := pchk_nat _ _ _ _ hk
    clear z1 z2 z3
    have C2 : Hid (∀ w0, Below w.heap.size w w0 → Calls Try.prog 33 #[.agg #[.int .i64 (m : Int), .slice ao xs.length cap, .slice so su.length sc, .slice tO sb.length tc], .bool bit, .int .i64 (m : Int)] w0 fun e w' => e = .returned (.int .i64 ((cB xs bit m : Nat) : Int)) ∧ Below w0.heap.size w0 w') := fun w0 hb => count_c m ao xs cap so su sc tO sb tc bit m w0 (h.keep hb) hk (Nat.le_refl _)
    have hps := psel_iff (m : Int) xs bit k
    rw [Int.toNat_natCast] at hps
    by_cases h0 : 0 ≤ k ∧ k < (cB xs bit m : Int)
    · obtain ⟨q, hq⟩ := Option.isSome_iff_exists.1 (hps.2 h0)
      obtain ⟨n, rfl⟩ := Int.eq_ofNat_of_zero_le h0.1
      have R1 : Hid (psE (m : Int) xs su sb bit (n : Int) = 0) := by show psE (m : Int) xs su sb bit (n : Int) = 0; unfold psE; rw [hk, if_pos rfl, hq]; rfl
      have R2 : Hid (psX (m : Int) xs su sb bit (n : Int) = (q : Int)) := by show psX (m : Int) xs su sb bit (n : Int) = _; unfold psX; rw [hk, if_pos rfl, hq]; rfl
      rw [R1.out, R2.out]
      have C3 : Hid (∀ w0, Below w.heap.size w w0 → Calls Try.prog 39 #[.agg #[.int .i64 (m : Int), .slice ao xs.length cap, .slice so su.length sc, .slice tO sb.length tc], .bool bit, .int .i64 (n : Int)] w0 fun e w' => e = .returned (.int .i64 (q : Int)) ∧ Below w0.heap.size w0 w') := fun w0 hb => sought_c m ao xs cap so su sc tO sb tc bit n q w0 (h.keep hb) hk hq
      have h3 : ¬ ((cB xs bit m : Nat) : Int) ≤ (n : Int) := by omega
      have h3' : (n : Int) < ((cB xs bit m : Nat) : Int) := by omega
      have h4 : ¬ (n : Int) < 0 := by omega
      clear h hl hk h0 hk0 hps
      generalize cB xs bit m = Z at *
      go_enter Try.func19, Try.ntmps19
      go_wp2_with fail
      rw [← hW]
      refine (C1.out _ rfl).mono ?_
      rintro e w1 ⟨rfl, hb⟩
      have bw1 := bW.trans (hb.mono bW.size)
      replace B1 := B1.kept hb
      clear hb C1 hW bW W
      have x0 := B1.cell 0 rfl
      have x1 := B1.cell 1 rfl
      have x2 := B1.cell 2 rfl
      have x3 := B1.cell 3 rfl
      go_wp2_with fail
      refine (C2.out _ bw1).mono ?_
      rintro e w2 ⟨rfl, hb⟩
      have bw2 := bw1.trans (hb.mono bw1.size)
      replace B1 := B1.kept hb
      clear hb bw1 x0 x1 x2 x3
      have x0 := B1.cell 0 rfl
      have x1 := B1.cell 1 rfl
      have x2 := B1.cell 2 rfl
      have x3 := B1.cell 3 rfl
      go_wp2_with fail
      refine (C3.out _ bw2).mono ?_
      rintro e w3 ⟨rfl, hb⟩
      have bw3 := bw2.trans (hb.mono bw2.size)
      clear hb
      go_wp2
      go_ret2
      exact ⟨rfl, bw3⟩
    · have hn : (pselO (m : Int) xs bit k).isSome = false := by
        cases e : (pselO (m : Int) xs bit k).isSome with
        | false => rfl
        | true => exact absurd (hps.1 e) h0
      have hn2 : pselO (m : Int) xs bit k = none := by simpa using hn
      have R1 : Hid (psE (m : Int) xs su sb bit k = 3) := by show psE (m : Int) xs su sb bit k = 3; unfold psE; rw [hk, if_pos rfl, hn2]; rfl
      have R2 : Hid (psX (m : Int) xs su sb bit k = 0) := by show psX (m : Int) xs su sb bit k = _; unfold psX; rw [hk, if_pos rfl, hn2]; rfl
      rw [R1.out, R2.out]
      clear h hl hk hps hn hn2
      by_cases h1 : k < 0
      · go_enter Try.func19, Try.ntmps19
        go_wp2_with fail
        rw [← hW]
        refine (C1.out _ rfl).mono ?_
        rintro e w1 ⟨rfl, hb⟩
        have bw1 := bW.trans (hb.mono bW.size)
        replace B1 := B1.kept hb
        clear hb C1 hW bW W
        go_wp2
        go_ret2
        exact ⟨rfl, bw1⟩
      · have h2 : ((cB xs bit m : Nat) : Int) ≤ k := by omega
        clear h0
        generalize cB xs bit m = Z at *
        go_enter Try.func19, Try.ntmps19
        go_wp2_with fail
        rw [← hW]
        refine (C1.out _ rfl).mono ?_
        rintro e w1 ⟨rfl, hb⟩
        have bw1 := bW.trans (hb.mono bW.size)
        replace B1 := B1.kept hb
        clear hb C1 hW bW W
        have x0 := B1.cell 0 rfl
        have x1 := B1.cell 1 rfl
        have x2 := B1.cell 2 rfl
        have x3 := B1.cell 3 rfl
        go_wp2_with fail
        refine (C2.out _ bw1).mono ?_
        rintro e w2 ⟨rfl, hb⟩
        have bw2 := bw1.trans (hb.mono bw1.size)
        clear hb
        go_wp2
        go_ret2
        exact ⟨rfl, bw2⟩
end Go.Proofs.Ytcgnphffjfffgaa
