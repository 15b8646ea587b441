/-
  The contracts of the program's Back, Check, Step (of what may be) and Runs.
-/
import Derived.Test.YtojjinjgmijgcaaBx5
namespace Go.Proofs.Ytojjinjgmijgcaa
open Go.RowKit
set_option linter.unusedVariables false
set_option linter.unusedSimpArgs false
set_option maxRecDepth 100000

set_option maxHeartbeats 2000000 in
theorem bback_c (ao : Option Addr) (L : List Nat) (ac : Nat) (r : Int) (bo : Option Addr) (C : List Int) (bc : Nat) (w : World) (h : BA w ao L ac bo C bc) :
    Calls Try.prog 9 #[.agg #[.slice ao L.length ac, .int .i64 r, .slice bo C.length bc]] w (BackQ L r C w) := by
  obtain ⟨W, hW⟩ : ∃ W, W = w.alloc (.cells #[.slice ao L.length ac, .int .i64 r, .slice bo C.length bc] 25) := ⟨_, rfl⟩
  have bW : Below w.heap.size w W := by rw [hW]; exact below_alloc w _
  have h' := h.keep bW
  have C1 : Hid (∀ w0, w0 = W → Calls Try.prog 16 #[.agg #[.slice ao L.length ac, .int .i64 r, .slice bo C.length bc]] w0 (RdQ L r C w0)) := fun w0 e => by subst e; exact bread_c ao L ac r bo C bc w0 h'
  clear h h'
  go_enter Try.func9, Try.ntmps9
  go_wp2_with fail
  rw [← hW]
  refine (C1.out _ rfl).mono ?_
  rintro e w1 (⟨t, gx, gs, ht, rfl, h1, h2, hb⟩ | ⟨hno, rfl, hb⟩)
  · have QA : Hid (BackQ L r C w (.returned (.tuple #[.slice (some ⟨gx, 0, none⟩) L.length L.length, .int .i64 0])) w1) := by
      have e1 := Su.back_ok ht
      have e2 : (Su.backT L r C).length = L.length := by rw [e1.2, ht.len]
      refine ⟨some ⟨gx, 0, none⟩, L.length, by rw [e2, e1.1], by rw [e1.2]; exact h1, by rw [e2]; exact Nat.le_refl _, bW.trans (hb.mono bW.size)⟩
    clear hb h1 h2 ht C1 hW bW
    go_wp2
    go_ret2
    exact QA.out
  · have QA := hide (back_none hno (bW.trans (hb.mono bW.size)))
    clear hb hno C1 hW bW
    go_wp2
    go_ret2
    exact QA.out
set_option maxHeartbeats 2000000 in
theorem bchk_c (ao : Option Addr) (L : List Nat) (ac : Nat) (r : Int) (bo : Option Addr) (C : List Int) (bc : Nat) (w : World) (h : BA w ao L ac bo C bc) :
    Calls Try.prog 10 #[.agg #[.slice ao L.length ac, .int .i64 r, .slice bo C.length bc]] w fun e w' => e = .returned (.bool (Su.bok L r C)) ∧ Below w.heap.size w w' := by
  obtain ⟨W, hW⟩ : ∃ W, W = w.alloc (.cells #[.slice ao L.length ac, .int .i64 r, .slice bo C.length bc] 25) := ⟨_, rfl⟩
  have bW : Below w.heap.size w W := by rw [hW]; exact below_alloc w _
  have h' := h.keep bW
  have C1 : Hid (∀ w0, w0 = W → Calls Try.prog 16 #[.agg #[.slice ao L.length ac, .int .i64 r, .slice bo C.length bc]] w0 (RdQ L r C w0)) := fun w0 e => by subst e; exact bread_c ao L ac r bo C bc w0 h'
  clear h h'
  go_enter Try.func10, Try.ntmps10
  go_wp2_with fail
  rw [← hW]
  refine (C1.out _ rfl).mono ?_
  rintro e w1 (⟨t, gx, gs, ht, rfl, h1, h2, hb⟩ | ⟨hno, rfl, hb⟩)
  · have E := hide (Su.bok_yes ht)
    have HB := hide (bW.trans (hb.mono bW.size))
    clear hb h1 h2 ht C1 hW bW
    go_wp2
    go_ret
    exact ⟨by rw [E.out]; rfl, HB.out⟩
  · have E := hide (Su.bok_no hno)
    have HB := hide (bW.trans (hb.mono bW.size))
    clear hb hno C1 hW bW
    go_wp2
    go_ret
    exact ⟨by rw [E.out]; rfl, HB.out⟩
set_option maxHeartbeats 2000000 in
theorem bstep_c (ao : Option Addr) (L : List Nat) (ac : Nat) (r : Int) (bo : Option Addr) (C : List Int) (bc : Nat) (i : Int) (w : World) (h : BA w ao L ac bo C bc) (hk : Su.bok L r C = true) :
    Calls Try.prog 14 #[.agg #[.slice ao L.length ac, .int .i64 r, .slice bo C.length bc], .int .i64 i] w fun e w' => e = .returned (.tuple #[.int .i64 (Su.stN L r C i : Nat), .int .i64 (Su.stE L r C i)]) ∧ Below w.heap.size w w' := by
  by_cases hi : i < 0 ∨ (L.length : Int) < i
  · obtain ⟨W, hW⟩ : ∃ W, W = w.alloc (.cells #[.slice ao L.length ac, .int .i64 r, .slice bo C.length bc] 25) := ⟨_, rfl⟩
    have bW := hide (show Below w.heap.size w W by rw [hW]; exact below_alloc w _)
    have e := Su.st_out hk hi
    rw [e.1, e.2]
    clear h e hk
    by_cases h1 : i < 0
    · go_enter Try.func14, Try.ntmps14
      go_wp2
      go_ret2
      exact ⟨rfl, by rw [← hW]; exact bW.out⟩
    · have h2 : (L.length : Int) < i := by omega
      generalize L.length = n at *
      go_enter Try.func14, Try.ntmps14
      go_wp2
      go_ret2
      exact ⟨rfl, by rw [← hW]; exact bW.out⟩
  · obtain ⟨j, rfl⟩ := Int.eq_ofNat_of_zero_le (show 0 ≤ i by omega)
    have hj : j ≤ L.length := by omega
    have e := Su.st_in hk hj
    rw [e.1, e.2]
    obtain ⟨W, hW⟩ : ∃ W, W = w.alloc (.cells #[.slice ao L.length ac, .int .i64 r, .slice bo C.length bc] 25) := ⟨_, rfl⟩
    have bW : Below w.heap.size w W := by rw [hW]; exact below_alloc w _
    have h' := h.keep bW
    have C1 : Hid (∀ w0, w0 = W → Calls Try.prog 16 #[.agg #[.slice ao L.length ac, .int .i64 r, .slice bo C.length bc]] w0 (RdQ L r C w0)) := fun w0 e => by subst e; exact bread_c ao L ac r bo C bc w0 h'
    have GS := hide (Su.gt_sts L r.toNat j hj)
    have LS : Hid ((Su.sts L r.toNat).length = L.length + 1) := Su.length_sts _ _
    generalize Su.stp L r.toNat (Su.first L) j = sn at *
    have hjz : ¬ (j : Int) < 0 := by omega
    have hjy : ¬ (L.length : Int) < (j : Int) := by omega
    have hjx : (j : Int) < (L.length : Int) + 1 := by omega
    have KO := hide hk
    clear h h' hi e hk
    go_enter Try.func14, Try.ntmps14
    go_wp2_with fail
    rw [← hW]
    refine (C1.out _ rfl).mono ?_
    rintro e w1 (⟨t, gx, gs, ht, rfl, h1, h2, hb⟩ | ⟨hno, rfl, hb⟩)
    · have HB := hide (bW.trans (hb.mono bW.size))
      have e2 := h2.cell j (iv_get _ _ (by rw [LS.out]; omega))
      rw [GS.out] at e2
      clear hb h1 h2 ht C1 hW bW GS LS
      generalize L.length = n at *
      go_wp2
      go_ret2
      exact ⟨rfl, HB.out⟩
    · have e3 := Su.bok_no hno
      rw [KO.out] at e3
      cases e3
set_option maxHeartbeats 4000000 in
theorem bruns_c (ao : Option Addr) (L : List Nat) (ac : Nat) (r : Int) (bo : Option Addr) (C : List Int) (bc : Nat) (w : World) (h : BA w ao L ac bo C bc) :
    Calls Try.prog 15 #[.agg #[.slice ao L.length ac, .int .i64 r, .slice bo C.length bc]] w fun e w' => e = .returned (.int .i64 (Su.rnN L r C : Nat)) ∧ Below w.heap.size w w' := by
  obtain ⟨W, hW⟩ : ∃ W, W = w.alloc (.cells #[.slice ao L.length ac, .int .i64 r, .slice bo C.length bc] 25) := ⟨_, rfl⟩
  have bW : Below w.heap.size w W := by rw [hW]; exact below_alloc w _
  have B1 : Cel W w.heap.size [.slice ao L.length ac, .int .i64 r, .slice bo C.length bc] 25 := by rw [hW]; exact Cel.new w _ _
  have C1 : Hid (∀ w0, w0 = W → Calls Try.prog 10 #[.agg #[.slice ao L.length ac, .int .i64 r, .slice bo C.length bc]] w0 fun e w' => e = .returned (.bool (Su.bok L r C)) ∧ Below w0.heap.size w0 w') := fun w0 e => by subst e; exact bchk_c ao L ac r bo C bc w0 (h.keep bW)
  rcases Su.bok_or L r C with ⟨k, t, ht⟩ | ⟨k, hno⟩
  · rw [k] at C1
    have R0 : Hid (Su.rnN L r C = Su.rn L L.length) := by show _ = _; unfold Su.rnN; rw [if_pos k]
    have hn8 : L.length ≤ 8192 := by rw [ht.len]; exact ht.n
    obtain ⟨n, hn⟩ : ∃ n, Hid (n = L.length) := ⟨_, rfl⟩
    have HX := hide h.x
    have hb := h.b
    rw [← hn.out] at C1 B1 hW hn8 R0 ⊢
    clear h k ht
    go_enter Try.func15, Try.ntmps15
    go_wp2_with fail
    rw [← hW]
    refine (C1.out _ rfl).mono ?_
    rintro e w1 ⟨rfl, hb1⟩
    have HB := hide (bW.trans (hb1.mono bW.size))
    have B2 := hide (B1.kept hb1)
    replace HX := hide (HX.out.keep HB.out)
    clear hb1 C1 B1 hW bW
    have c0 := B2.out.cell 0 rfl
    go_wp2
    go_loopw [3, 12] (fun v3 v4 wr => ∃ (q v : Nat), q ≤ n ∧ v ≤ q ∧ v3 = .int .i64 v ∧ v4 = .int .i64 q ∧ Hid (v = Su.rn L q) ∧ Hid (Below w1.heap.size w1 wr)) (fun _ v4 _ => n - (intOf v4).toNat)
    case atStart => exact ⟨0, 0, Nat.zero_le _, Nat.le_refl _, rfl, rfl, rfl, Below.refl _ _⟩
    case round =>
      clear c0
      obtain ⟨q, v, hq, hv, rfl, rfl, HV, HBr⟩ := hrel
      have c0 := (B2.out.kept HBr.out).cell 0 rfl
      have HBB : Hid (Below w.heap.size w wr) := HB.out.trans (HBr.out.mono HB.out.size)
      by_cases hlt : q < n
      · have hltz : (q : Int) < (n : Int) := by omega
        obtain ⟨b, off, rfl, hb0, hcc⟩ := HX.out (by rw [← hn.out]; omega)
        have e1 := (HBr.out.cell (p := ⟨b, off + q, none⟩) hb0).trans (hcc q (by rw [← hn.out]; exact hlt))
        have RT : Hid (Su.rn L (q + 1) = v + (decide (q = 0) || decide (gt L q ≠ gt L (q - 1))).toNat) := by rw [HV.out]; rfl
        have g1 := gt_lt hb q
        have g2 := gt_lt hb (q - 1)
        by_cases h0 : q = 0
        · subst h0
          rw [Nat.add_zero] at e1
          have RT2 : Hid (Su.rn L 1 = v + 1) := by rw [RT.out]; rfl
          clear RT HV hcc g1 g2
          generalize gt L 0 = x at *
          go_wp2
          exact ⟨⟨1, v + 1, by omega, by omega, by go_num, by go_num, RT2.out.symm, HBr.out⟩, by simp only [intOf]; omega⟩
        · have h0z : ((q : Int) == 0) = false := by simp; omega
          obtain ⟨d, rfl⟩ : ∃ d, q = d + 1 := ⟨q - 1, by omega⟩
          have e2 := (HBr.out.cell (p := ⟨b, off + d, none⟩) hb0).trans (hcc d (by rw [← hn.out]; omega))
          rw [Nat.add_sub_cancel] at RT g2
          rw [decide_eq_false (show ¬ d + 1 = 0 by omega), Bool.false_or] at RT
          have hdz : (d : Int) < (n : Int) := by omega
          have h0y : ((d : Int) + 1 == 0) = false := by simp; omega
          have h0x : (d + 1 == 0) = false := by simp
          clear HV hcc h0
          generalize gt L (d + 1) = x at *
          generalize gt L d = y at *
          by_cases hxy : x = y
          · have hz : ((x : Int) != (y : Int)) = false := by simp; omega
            have hz2 : (x != y) = false := by simp; omega
            rw [decide_eq_false (fun h => h hxy)] at RT
            have HXY := hide hxy
            clear hxy
            go_wp2
            exact ⟨⟨d + 1 + 1, v, by omega, by omega, by go_num, by go_num, RT.out.symm, HBr.out⟩, by simp only [intOf]; omega⟩
          · have hz : ((x : Int) != (y : Int)) = true := by simp; omega
            have hz2 : (x != y) = true := by simp; omega
            rw [decide_eq_true hxy] at RT
            clear hxy
            go_wp2
            exact ⟨⟨d + 1 + 1, v + 1, by omega, by omega, by go_num, by go_num, RT.out.symm, HBr.out⟩, by simp only [intOf]; omega⟩
      · obtain rfl : q = n := by omega
        go_wp2
        go_ret
        rw [R0.out, ← HV.out]
        exact ⟨rfl, HBB.out⟩
  · rw [k] at C1
    have R0 : Hid (Su.rnN L r C = 0) := by show _ = _; unfold Su.rnN; rw [if_neg (by rw [k]; decide)]
    clear h k hno
    go_enter Try.func15, Try.ntmps15
    go_wp2_with fail
    rw [← hW]
    refine (C1.out _ rfl).mono ?_
    rintro e w1 ⟨rfl, hb⟩
    have HB := hide (bW.trans (hb.mono bW.size))
    clear hb C1 B1 hW bW
    go_wp2
    go_ret
    rw [R0.out]
    exact ⟨rfl, HB.out⟩
end Go.Proofs.Ytojjinjgmijgcaa
