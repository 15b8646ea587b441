/-
  The contracts of the document's Check, Bits, Access, Rank and Select, over that of its Whole. The contracts of the document's Build, Whole and Size of layer 8.
-/
import Derived.Test.YtmkmpggpjlikaaaGreatDoorM06
import Derived.Test.YtmkmpggpjlikaaaGreatDoorM07
import Derived.Test.YtmkmpggpjlikaaaGreatDoorM01
namespace Go.Proofs.YtmkmpggpjlikaaaGreatDoor
open Go.RowKit Num Bit
set_option linter.unusedVariables false
set_option linter.unusedSimpArgs false
set_option maxRecDepth 100000

theorem r8info_b : (Tryz.prog.info? 24).map (·.size) = some 2 := by kernel_rfl

set_option maxHeartbeats 2000000 in
theorem r8check_g (c0 c1 c2 c3 c4 c5 c6 c7 c8 : Value) (ok : Bool) (N : Int) (X : List Nat) (w : World) (hf : Fit X) (hck : ok = true → chk N X = true) (C1 : Hid (∀ w0, Below w.heap.size w w0 → Calls Tryz.prog 41 #[.agg #[c0, c1, c2, c3, c4, c5, c6, c7, c8]] w0 fun e w' => ∃ bo bc, e = .returned (.tuple #[.agg #[.int .i64 N, .slice bo X.length bc], .bool ok]) ∧ Wd w' bo X ∧ X.length ≤ bc ∧ Below w0.heap.size w0 w')) :
    Calls Tryz.prog 19 #[.agg #[c0, c1, c2, c3, c4, c5, c6, c7, c8]] w fun e w' => e = .returned (.bool ok) ∧ Below w.heap.size w w' := by
  obtain ⟨W, hW⟩ : ∃ W, W = w.alloc (.cells #[c0, c1, c2, c3, c4, c5, c6, c7, c8] 30) := ⟨_, rfl⟩
  have bW : Below w.heap.size w W := by rw [hW]; exact below_alloc w _
  go_enter Tryz.func19, Tryz.ntmps19
  go_wp2_with fail
  rw [← hW]
  refine (C1.out _ bW).mono ?_
  rintro e w1 ⟨bo, bc, rfl, hx, hbc, hb⟩
  have bw1 := bW.trans (hb.mono bW.size)
  clear hb C1
  have bA := below_alloc w1 (.cells #[.int .i64 N, .slice bo X.length bc] 24)
  have bw2 := bw1.trans (bA.mono bw1.size)
  go_wp2
  go_ret
  exact ⟨rfl, bw2⟩

set_option maxHeartbeats 2000000 in
theorem r8bits_g (c0 c1 c2 c3 c4 c5 c6 c7 c8 : Value) (ok : Bool) (N : Int) (X : List Nat) (w : World) (hf : Fit X) (hck : ok = true → chk N X = true) (C1 : Hid (∀ w0, Below w.heap.size w w0 → Calls Tryz.prog 41 #[.agg #[c0, c1, c2, c3, c4, c5, c6, c7, c8]] w0 fun e w' => ∃ bo bc, e = .returned (.tuple #[.agg #[.int .i64 N, .slice bo X.length bc], .bool ok]) ∧ Wd w' bo X ∧ X.length ≤ bc ∧ Below w0.heap.size w0 w')) :
    Calls Tryz.prog 22 #[.agg #[c0, c1, c2, c3, c4, c5, c6, c7, c8]] w fun e w' => ∃ bo bc, e = .returned (.agg #[.int .i64 N, .slice bo X.length bc]) ∧ Wd w' bo X ∧ X.length ≤ bc ∧ Below w.heap.size w w' := by
  obtain ⟨W, hW⟩ : ∃ W, W = (w.alloc (.cells #[c0, c1, c2, c3, c4, c5, c6, c7, c8] 30)).alloc (.cells #[.int .i64 0, .slice none 0 0] 24) := ⟨_, rfl⟩
  have bW : Below w.heap.size w W := by rw [hW]; exact (below_alloc w _).alloc (by simp) _
  have B2 : Cel W (w.heap.size + 1) [.int .i64 0, .slice none 0 0] 24 := by rw [hW]; exact Cel.new2 w _ _ _
  go_enter Tryz.func22, Tryz.ntmps22
  go_wp2_with fail
  rw [← hW]
  refine (C1.out _ bW).mono ?_
  rintro e w1 ⟨bo, bc, rfl, hx, hbc, hb⟩
  have bw1 := bW.trans (hb.mono bW.size)
  have z2 : w.heap.size + 1 < w1.heap.size := Nat.lt_of_lt_of_le B2.lt hb.size
  replace B2 := B2.kept hb
  have bA := below_alloc w1 (.cells #[.int .i64 N, .slice bo X.length bc] 24)
  replace B2 := B2.kept bA
  have hx2 := hx.keep bA
  have bw2 := bw1.trans (bA.mono bw1.size)
  have D1 := Cel.new w1 [.int .i64 N, .slice bo X.length bc] 24
  have hne := hx2.apart B2 (by intro v hv n; simp at hv; rcases hv with rfl | rfl <;> simp)
  go_wp2_with (first | refine load_cel w1.heap.size _ rfl D1 Tryz.underlying24 r8info_b ?_ | refine store_cel (w.heap.size + 1) _ _ rfl rfl B2 rfl r8info_b (by simp [Value.oneCell']) ?_)
  intro w3 B3 O3
  have HZ : Hid (Cel w3 (w.heap.size + 1) [.int .i64 N, .slice bo X.length bc] 24 ∧ Wd w3 bo X ∧ Below w.heap.size w w3) := ⟨B3, O3.wd hx2 hne, bw2.trans (O3.below (Nat.le_succ _))⟩
  clear B3 O3 hx hx2 hb B2 D1
  go_wp2
  (try simp only [Exit.inBlock, Exit.then])
  exact bodyPost_ret (result_cel1 rfl (w.heap.size + 1) _ rfl HZ.out.1 Tryz.underlying24 r8info_b) rfl ⟨bo, bc, rfl, HZ.out.2.1, hbc, HZ.out.2.2⟩

set_option maxHeartbeats 2000000 in
theorem r8access_g (c0 c1 c2 c3 c4 c5 c6 c7 c8 : Value) (i : Int) (ok : Bool) (N : Int) (X : List Nat) (w : World) (hf : Fit X) (hck : ok = true → chk N X = true) (C1 : Hid (∀ w0, Below w.heap.size w w0 → Calls Tryz.prog 41 #[.agg #[c0, c1, c2, c3, c4, c5, c6, c7, c8]] w0 fun e w' => ∃ bo bc, e = .returned (.tuple #[.agg #[.int .i64 N, .slice bo X.length bc], .bool ok]) ∧ Wd w' bo X ∧ X.length ≤ bc ∧ Below w0.heap.size w0 w')) :
    Calls Tryz.prog 13 #[.agg #[c0, c1, c2, c3, c4, c5, c6, c7, c8], .int .i64 i] w fun e w' => e = .returned (.tuple #[.bool (gaB ok N X i), .int .i64 (gaE ok N X i)]) ∧ Below w.heap.size w w' := by
  obtain ⟨W, hW⟩ : ∃ W, W = w.alloc (.cells #[c0, c1, c2, c3, c4, c5, c6, c7, c8] 30) := ⟨_, rfl⟩
  have bW : Below w.heap.size w W := by rw [hW]; exact below_alloc w _
  obtain ⟨P1, hP1⟩ : ∃ P : Bool, Hid (P = gaB ok N X i) := ⟨gaB ok N X i, (rfl : gaB ok N X i = gaB ok N X i)⟩
  obtain ⟨P2, hP2⟩ : ∃ P : Int, Hid (P = gaE ok N X i) := ⟨gaE ok N X i, (rfl : gaE ok N X i = gaE ok N X i)⟩
  rw [← hP1.out, ← hP2.out]
  cases hk : ok with
  | false =>
    subst hk
    have E : Hid (P1 = false ∧ P2 = 2) := by
      show _ ∧ _
      rw [hP1.out, hP2.out]
      unfold gaB gaE
      exact ⟨rfl, rfl⟩
    go_enter Tryz.func13, Tryz.ntmps13
    go_wp2_with fail
    rw [← hW]
    refine (C1.out _ bW).mono ?_
    rintro e w1 ⟨bo, bc, rfl, hx, hbc, hb⟩
    have bw1 := bW.trans (hb.mono bW.size)
    clear hb C1
    have bA := below_alloc w1 (.cells #[.int .i64 N, .slice bo X.length bc] 24)
    have bw2 := bw1.trans (bA.mono bw1.size)
    go_wp2
    go_ret2
    rw [E.out.1, E.out.2]
    exact ⟨rfl, bw2⟩
  | true =>
    subst hk
    have E : Hid (P1 = getB N X i ∧ P2 = getE N X i) := by
      show _ ∧ _
      rw [hP1.out, hP2.out]
      unfold gaB gaE
      exact ⟨rfl, rfl⟩
    have C2 : Hid (∀ w0 bo bc, Wd w0 bo X → Calls Tryz.prog 42 #[.agg #[.int .i64 N, .slice bo X.length bc], .int .i64 i] w0 fun e w' => e = .returned (.tuple #[.bool P1, .int .i64 P2]) ∧ Below w0.heap.size w0 w') := fun w0 bo bc h => by
      rw [E.out.1, E.out.2]
      exact refget_c N bo X bc i w0 h hf
    go_enter Tryz.func13, Tryz.ntmps13
    go_wp2_with fail
    rw [← hW]
    refine (C1.out _ bW).mono ?_
    rintro e w1 ⟨bo, bc, rfl, hx, hbc, hb⟩
    have bw1 := bW.trans (hb.mono bW.size)
    clear hb C1
    have bA := below_alloc w1 (.cells #[.int .i64 N, .slice bo X.length bc] 24)
    have bw2 := bw1.trans (bA.mono bw1.size)
    have hx2 := hx.keep bA
    go_wp2_with fail
    refine (C2.out _ _ _ hx2).mono ?_
    rintro e w2 ⟨rfl, hb2⟩
    have bw3 := bw2.trans (hb2.mono bw2.size)
    go_wp2
    go_ret2
    exact ⟨rfl, bw3⟩

theorem r8onesI_in (N : Int) (xs : List Nat) (i : Nat) (hk : chk N xs = true) (hi : (i : Int) ≤ N) : onesI N xs i = (cntB xs i : Int) := by
  unfold onesI
  rw [hk, show min (i : Int) N = (i : Int) by omega, Int.toNat_natCast]
  rfl

set_option maxHeartbeats 2000000 in
theorem r8rank_g (c0 c1 c2 c3 c4 c5 c6 c7 c8 : Value) (bit : Bool) (i : Int) (ok : Bool) (N : Int) (X : List Nat) (w : World) (hf : Fit X) (hck : ok = true → chk N X = true) (C1 : Hid (∀ w0, Below w.heap.size w w0 → Calls Tryz.prog 41 #[.agg #[c0, c1, c2, c3, c4, c5, c6, c7, c8]] w0 fun e w' => ∃ bo bc, e = .returned (.tuple #[.agg #[.int .i64 N, .slice bo X.length bc], .bool ok]) ∧ Wd w' bo X ∧ X.length ≤ bc ∧ Below w0.heap.size w0 w')) :
    Calls Tryz.prog 15 #[.agg #[c0, c1, c2, c3, c4, c5, c6, c7, c8], .bool bit, .int .i64 i] w fun e w' => e = .returned (.tuple #[.int .i64 (grN ok N X bit i), .int .i64 (grE ok N i)]) ∧ Below w.heap.size w w' := by
  obtain ⟨W, hW⟩ : ∃ W, W = w.alloc (.cells #[c0, c1, c2, c3, c4, c5, c6, c7, c8] 30) := ⟨_, rfl⟩
  have bW : Below w.heap.size w W := by rw [hW]; exact below_alloc w _
  obtain ⟨P1, hP1⟩ : ∃ P : Int, Hid (P = grN ok N X bit i) := ⟨grN ok N X bit i, (rfl : grN ok N X bit i = grN ok N X bit i)⟩
  obtain ⟨P2, hP2⟩ : ∃ P : Int, Hid (P = grE ok N i) := ⟨grE ok N i, (rfl : grE ok N i = grE ok N i)⟩
  rw [← hP1.out, ← hP2.out]
  cases hk : ok with
  | false =>
    subst hk
    have E : Hid (P1 = 0 ∧ P2 = 2) := by
      show _ ∧ _
      rw [hP1.out, hP2.out]
      unfold grN grE
      exact ⟨rfl, rfl⟩
    go_enter Tryz.func15, Tryz.ntmps15
    go_wp2_with fail
    rw [← hW]
    refine (C1.out _ bW).mono ?_
    rintro e w1 ⟨bo, bc, rfl, hx, hbc, hb⟩
    have bw1 := bW.trans (hb.mono bW.size)
    clear hb C1
    have bA := below_alloc w1 (.cells #[.int .i64 N, .slice bo X.length bc] 24)
    have bw2 := bw1.trans (bA.mono bw1.size)
    go_wp2
    go_ret2
    rw [E.out.1, E.out.2]
    exact ⟨rfl, bw2⟩
  | true =>
    subst hk
    replace hck := hck rfl
    obtain ⟨h0, h1, -, -⟩ := chk_out N X hck
    by_cases hi : i < 0
    · have E : Hid (P1 = 0 ∧ P2 = 3) := by
        show _ ∧ _
        have e2 : grE true N i = 3 := by unfold grE; rw [if_pos rfl, if_pos (.inl hi)]
        rw [hP1.out, hP2.out]
        unfold grN
        rw [e2]
        exact ⟨rfl, rfl⟩
      go_enter Tryz.func15, Tryz.ntmps15
      go_wp2_with fail
      rw [← hW]
      refine (C1.out _ bW).mono ?_
      rintro e w1 ⟨bo, bc, rfl, hx, hbc, hb⟩
      have bw1 := bW.trans (hb.mono bW.size)
      clear hb C1
      have bA := below_alloc w1 (.cells #[.int .i64 N, .slice bo X.length bc] 24)
      have bw2 := bw1.trans (bA.mono bw1.size)
      go_wp2
      go_ret2
      rw [E.out.1, E.out.2]
      exact ⟨rfl, bw2⟩
    by_cases hi2 : N < i
    · have E : Hid (P1 = 0 ∧ P2 = 3) := by
        show _ ∧ _
        have e2 : grE true N i = 3 := by unfold grE; rw [if_pos rfl, if_pos (.inr hi2)]
        rw [hP1.out, hP2.out]
        unfold grN
        rw [e2]
        exact ⟨rfl, rfl⟩
      go_enter Tryz.func15, Tryz.ntmps15
      go_wp2_with fail
      rw [← hW]
      refine (C1.out _ bW).mono ?_
      rintro e w1 ⟨bo, bc, rfl, hx, hbc, hb⟩
      have bw1 := bW.trans (hb.mono bW.size)
      clear hb C1
      have bA := below_alloc w1 (.cells #[.int .i64 N, .slice bo X.length bc] 24)
      have bw2 := bw1.trans (bA.mono bw1.size)
      go_wp2
      go_ret2
      rw [E.out.1, E.out.2]
      exact ⟨rfl, bw2⟩
    have E : Hid (P1 = (cB X bit i.toNat : Int) ∧ P2 = 0) := by
      show _ ∧ _
      have e2 : grE true N i = 0 := by unfold grE; rw [if_pos rfl, if_neg (by omega)]
      rw [hP1.out, hP2.out]
      unfold grN
      rw [e2]
      exact ⟨rfl, rfl⟩
    obtain ⟨k, rfl⟩ := Int.eq_ofNat_of_zero_le (show 0 ≤ i by omega)
    have hc := cntB_le X k
    have C2 : Hid (∀ w0 bo bc, Wd w0 bo X → Calls Tryz.prog 44 #[.agg #[.int .i64 N, .slice bo X.length bc], .int .i64 k] w0 fun e w' => e = .returned (.int .i64 (cntB X k)) ∧ Below w0.heap.size w0 w') := fun w0 bo bc h => by
      have := refones_c N bo X bc k w0 h hf
      rw [r8onesI_in N X k hck (by omega)] at this
      exact this
    rw [Int.toNat_natCast] at E
    cases bit with
    | true =>
      rw [show cB X true k = cntB X k from rfl] at E
      generalize cntB X k = Z at *
      go_enter Tryz.func15, Tryz.ntmps15
      go_wp2_with fail
      rw [← hW]
      refine (C1.out _ bW).mono ?_
      rintro e w1 ⟨bo, bc, rfl, hx, hbc, hb⟩
      have bw1 := bW.trans (hb.mono bW.size)
      clear hb C1
      have bA := below_alloc w1 (.cells #[.int .i64 N, .slice bo X.length bc] 24)
      have bw2 := bw1.trans (bA.mono bw1.size)
      have hx2 := hx.keep bA
      go_wp2_with fail
      refine (C2.out _ _ _ hx2).mono ?_
      rintro e w2 ⟨rfl, hb2⟩
      have bw3 := bw2.trans (hb2.mono bw2.size)
      go_wp2
      go_ret2
      rw [E.out.1, E.out.2]
      exact ⟨rfl, bw3⟩
    | false =>
      rw [show cB X false k = k - cntB X k from rfl] at E
      generalize cntB X k = Z at *
      have eZ : Hid (((k - Z : Nat) : Int) = (k : Int) - (Z : Int)) := by show ((k - Z : Nat) : Int) = (k : Int) - (Z : Int); omega
      go_enter Tryz.func15, Tryz.ntmps15
      go_wp2_with fail
      rw [← hW]
      refine (C1.out _ bW).mono ?_
      rintro e w1 ⟨bo, bc, rfl, hx, hbc, hb⟩
      have bw1 := bW.trans (hb.mono bW.size)
      clear hb C1
      have bA := below_alloc w1 (.cells #[.int .i64 N, .slice bo X.length bc] 24)
      have bw2 := bw1.trans (bA.mono bw1.size)
      have hx2 := hx.keep bA
      go_wp2_with fail
      refine (C2.out _ _ _ hx2).mono ?_
      rintro e w2 ⟨rfl, hb2⟩
      have bw3 := bw2.trans (hb2.mono bw2.size)
      go_wp2
      go_ret2
      rw [E.out.1, E.out.2, eZ.out]
      exact ⟨rfl, bw3⟩

set_option maxHeartbeats 2000000 in
theorem r8select_g (c0 c1 c2 c3 c4 c5 c6 c7 c8 : Value) (bit : Bool) (k : Int) (ok : Bool) (N : Int) (X : List Nat) (w : World) (hf : Fit X) (hck : ok = true → chk N X = true) (C1 : Hid (∀ w0, Below w.heap.size w w0 → Calls Tryz.prog 41 #[.agg #[c0, c1, c2, c3, c4, c5, c6, c7, c8]] w0 fun e w' => ∃ bo bc, e = .returned (.tuple #[.agg #[.int .i64 N, .slice bo X.length bc], .bool ok]) ∧ Wd w' bo X ∧ X.length ≤ bc ∧ Below w0.heap.size w0 w')) :
    Calls Tryz.prog 17 #[.agg #[c0, c1, c2, c3, c4, c5, c6, c7, c8], .bool bit, .int .i64 k] w fun e w' => e = .returned (.tuple #[.int .i64 (gsX ok N X bit k), .int .i64 (gsE ok N X bit k)]) ∧ Below w.heap.size w w' := by
  obtain ⟨W, hW⟩ : ∃ W, W = w.alloc (.cells #[c0, c1, c2, c3, c4, c5, c6, c7, c8] 30) := ⟨_, rfl⟩
  have bW : Below w.heap.size w W := by rw [hW]; exact below_alloc w _
  obtain ⟨P1, hP1⟩ : ∃ P : Int, Hid (P = gsX ok N X bit k) := ⟨gsX ok N X bit k, (rfl : gsX ok N X bit k = gsX ok N X bit k)⟩
  obtain ⟨P2, hP2⟩ : ∃ P : Int, Hid (P = gsE ok N X bit k) := ⟨gsE ok N X bit k, (rfl : gsE ok N X bit k = gsE ok N X bit k)⟩
  rw [← hP1.out, ← hP2.out]
  cases hk : ok with
  | false =>
    subst hk
    have E : Hid (P1 = 0 ∧ P2 = 2) := by
      show _ ∧ _
      rw [hP1.out, hP2.out]
      unfold gsX gsE
      exact ⟨rfl, rfl⟩
    go_enter Tryz.func17, Tryz.ntmps17
    go_wp2_with fail
    rw [← hW]
    refine (C1.out _ bW).mono ?_
    rintro e w1 ⟨bo, bc, rfl, hx, hbc, hb⟩
    have bw1 := bW.trans (hb.mono bW.size)
    clear hb C1
    have bA := below_alloc w1 (.cells #[.int .i64 N, .slice bo X.length bc] 24)
    have bw2 := bw1.trans (bA.mono bw1.size)
    go_wp2
    go_ret2
    rw [E.out.1, E.out.2]
    exact ⟨rfl, bw2⟩
  | true =>
    subst hk
    replace hck := hck rfl
    obtain ⟨h0, h1, h2, -⟩ := chk_out N X hck
    obtain ⟨m, rfl⟩ := Int.eq_ofNat_of_zero_le h0
    have E1 : ∀ o, pselO m X bit k = o → P1 = ((o.getD 0 : Nat) : Int) ∧ P2 = (if o.isSome = true then (0 : Int) else 3) := fun o ho => by
      rw [hP1.out, hP2.out]
      unfold gsX gsE
      rw [ho]
      exact ⟨rfl, rfl⟩
    have E : Hid (∀ o, pselO m X bit k = o → P1 = ((o.getD 0 : Nat) : Int) ∧ P2 = (if o.isSome = true then (0 : Int) else 3)) := E1
    clear E1
    have HL : Hid (∀ j, j < m → j / 64 < X.length) := fun j hj => by omega
    clear h2
    go_enter Tryz.func17, Tryz.ntmps17
    go_wp2_with fail
    rw [← hW]
    refine (C1.out _ bW).mono ?_
    rintro e w1 ⟨bo, bc, rfl, hx, hbc, hb⟩
    have bw1 := bW.trans (hb.mono bW.size)
    clear hb C1
    have bA := below_alloc w1 (.cells #[.int .i64 m, .slice bo X.length bc] 24)
    have bw2 := bw1.trans (bA.mono bw1.size)
    have D0 := Cel.new w1 [.int .i64 m, .slice bo X.length bc] 24
    have hx2 := hx.keep bA
    go_wp2
    go_loopw [10, 11] (fun n i wr => ∃ q c : Nat, q ≤ m ∧ i = .int .i64 q ∧ n = .int .i64 c ∧ c ≤ q ∧ Hid (c = cB X bit q) ∧ Hid (∀ j, j < q → here X bit k j = false) ∧ Cel wr w1.heap.size [.int .i64 m, .slice bo X.length bc] 24 ∧ Wd wr bo X ∧ Below w.heap.size w wr) (fun _ i _ => m - (intOf i).toNat)
    case atStart => exact ⟨0, 0, by omega, rfl, rfl, by omega, by show 0 = cB X bit 0; have := cB_le X bit 0; omega, fun j hj => absurd hj (by omega), D0, hx2, bw2⟩
    case round =>
      obtain ⟨q, c, hq, rfl, rfl, hcq, Hc, Hh, hD, hxr, hwr⟩ := hrel
      have r0 := hD.cell 0 rfl
      have r1 := hD.cell 1 rfl
      by_cases hlt : q < m
      · have hlt2 : (q : Int) < (m : Int) := by omega
        have C2 : Hid (∀ w0, Wd w0 bo X → Calls Tryz.prog 46 #[.agg #[.int .i64 m, .slice bo X.length bc], .int .i64 q] w0 fun e w' => e = .returned (.bool (bitAt X q)) ∧ Below w0.heap.size w0 w') := fun w0 h => at_c m bo X bc q w0 h (HL.out q hlt) (by omega)
        go_wp2_with fail
        refine (C2.out _ hxr).mono ?_
        rintro e w2 ⟨rfl, hb2⟩
        have hw2 := hwr.trans (hb2.mono hwr.size)
        have hD2 := hD.kept hb2
        have hx3 := hxr.keep hb2
        clear hb2 r0 r1
        by_cases hbit : bitAt X q = bit
        · have nb : (bitAt X q != bit) = false := by simp [hbit]
          by_cases hck2 : (c : Int) = k
          · have hh : here X bit k q = true := by
              unfold here
              rw [← Hc.out]
              simp [hbit, hck2]
            have hs := psel_some m X bit k q (by omega) hh
            have RS : Hid (P1 = (q : Int) ∧ P2 = 0) := E.out (some q) hs
            have ek : ((c : Int) == k) = true := by simp [hck2]
            clear hs hh
            go_wp2
            go_ret2
            rw [RS.out.1, RS.out.2]
            exact ⟨rfl, hw2⟩
          · have ek : ((c : Int) == k) = false := by simp [hck2]
            have hn : here X bit k q = false := by
              unfold here
              rw [← Hc.out]
              simp [hck2]
            have Hc2 : Hid (c + 1 = cB X bit (q + 1)) := by show c + 1 = cB X bit (q + 1); rw [cB_succ, if_pos hbit, ← Hc.out]
            have Hh2 : Hid (∀ j, j < q + 1 → here X bit k j = false) := fun j hj => by
              by_cases e : j = q
              · subst e; exact hn
              · exact Hh.out j (by omega)
            clear hn Hc Hh
            go_wp2
            exact ⟨⟨q + 1, c + 1, by omega, by go_num, by go_num, by omega, Hc2, Hh2, hD2, hx3, hw2⟩, by simp only [intOf]; omega⟩
        · have nb : (bitAt X q != bit) = true := by simp [hbit]
          have nb2 : (bitAt X q == bit) = false := by simp [hbit]
          have nb3 : (bitAt X q ^^ bit) = true := by revert hbit; cases bitAt X q <;> cases bit <;> simp
          have hn : here X bit k q = false := by
            unfold here
            simp [hbit]
          have Hc2 : Hid (c = cB X bit (q + 1)) := by show c = cB X bit (q + 1); rw [cB_succ, if_neg hbit, ← Hc.out]; rfl
          have Hh2 : Hid (∀ j, j < q + 1 → here X bit k j = false) := fun j hj => by
            by_cases e : j = q
            · subst e; exact hn
            · exact Hh.out j (by omega)
          clear hn Hc Hh
          go_wp2
          exact ⟨⟨q + 1, c, by omega, by go_num, rfl, by omega, Hc2, Hh2, hD2, hx3, hw2⟩, by simp only [intOf]; omega⟩
      · obtain rfl : q = m := by omega
        have hs : pselO q X bit k = none := psel_none q X bit k (fun i hi => Hh.out i (by rw [Int.toNat_natCast] at hi; exact hi))
        have RS : Hid (P1 = 0 ∧ P2 = 3) := E.out none hs
        clear hs
        go_wp2
        go_ret2
        rw [RS.out.1, RS.out.2]
        exact ⟨rfl, hwr⟩
end Go.Proofs.YtmkmpggpjlikaaaGreatDoor

namespace Go.Proofs.YtmkmpggpjlikaaaGreatDoor
open Go.RowKit Num Bit Bn
set_option linter.unusedVariables false
set_option linter.unusedSimpArgs false
set_option maxRecDepth 100000

def rbN (N : Int) (xs : List Nat) : Int := if chk N xs then N else 0
def rbK (N : Int) (xs : List Nat) : Int := if chk N xs then (nb N.toNat : Int) else 0
def rbV (N : Int) (xs : List Nat) : Int := if chk N xs then 4 else 0
def rbM (N : Int) (xs : List Nat) : Int := if chk N xs then (nb N.toNat : Int) * 4 else 0
def rbC (N : Int) (xs : List Nat) : List Nat := if chk N xs then rC N.toNat (bitAt xs) else []
def rbL (N : Int) (xs : List Nat) : Int := if chk N xs then (bat N.toNat (bitAt xs) (nb N.toNat) : Int) else 0
def rbO (N : Int) (xs : List Nat) : List Nat := if chk N xs then rO N.toNat (bitAt xs) else []
def rbS (N : Int) (xs : List Nat) : List Int := if chk N xs then rS N.toNat (bitAt xs) else []
def rbT (N : Int) (xs : List Nat) : List Int := if chk N xs then rT N.toNat (bitAt xs) else []
def rbE (N : Int) (xs : List Nat) : Int := if chk N xs then 0 else 2

set_option maxHeartbeats 2000000 in
theorem r8build_bad (N : Int) (ao : Option Addr) (xs : List Nat) (cap : Nat) (w : World) (hx : Wd w ao xs) (hf : Fit xs) (hk : chk N xs = false) :
    Calls Tryz.prog 7 #[.agg #[.int .i64 N, .slice ao xs.length cap]] w fun e w' => e = .returned (.tuple #[.agg #[.int .i64 0, .int .i64 0, .int .i64 0, .int .i64 0, .slice none 0 0, .int .i64 0, .slice none 0 0, .slice none 0 0, .slice none 0 0], .int .i64 2]) ∧ Below w.heap.size w w' := by
  obtain ⟨W, hW⟩ : ∃ W, W = (w.alloc (.cells #[.int .i64 N, .slice ao xs.length cap] 24)).alloc (.cells #[.int .i64 0, .int .i64 0, .int .i64 0, .int .i64 0, .slice none 0 0, .int .i64 0, .slice none 0 0, .slice none 0 0, .slice none 0 0] 30) := ⟨_, rfl⟩
  have bW : Below w.heap.size w W := by rw [hW]; exact (below_alloc w _).alloc (by simp) _
  have B2 : Cel W (w.heap.size + 1) [.int .i64 0, .int .i64 0, .int .i64 0, .int .i64 0, .slice none 0 0, .int .i64 0, .slice none 0 0, .slice none 0 0, .slice none 0 0] 30 := by rw [hW]; exact Cel.new2 w _ _ _
  have C1 : Hid (∀ w0, w0 = W → Calls Tryz.prog 30 #[.agg #[.int .i64 N, .slice ao xs.length cap]] w0 fun e w' => e = .returned (.bool false) ∧ Below w0.heap.size w0 w') := fun w0 h => by
    subst h
    have := refcheck_c N ao xs cap w0 (hx.keep bW) hf
    rw [hk] at this
    exact this
  go_enter Tryz.func7, Tryz.ntmps7
  go_wp2_with fail
  rw [← hW]
  refine (C1.out _ rfl).mono ?_
  rintro e w1 ⟨rfl, hb⟩
  have bw1 := bW.trans (hb.mono bW.size)
  replace B2 := B2.kept hb
  clear hb C1 hW bW W
  go_wp2_with (refine store_cel (w.heap.size + 1) _ _ rfl rfl B2 rfl info_r9 (by simp [Value.oneCell']) ?_)
  intro w3 B3 O3
  have HZ := Hid.mk8 (And.intro B3 (bw1.trans (O3.below (Nat.le_succ _))))
  clear B3 O3 B2 bw1
  go_wp2
  (try simp only [Exit.inBlock, Exit.then])
  exact bodyPost_ret (result_cel rfl (w.heap.size + 1) _ rfl HZ.out.1 Tryz.underlying30 info_r9) rfl ⟨rfl, HZ.out.2⟩

theorem r8build_c (N : Int) (ao : Option Addr) (xs : List Nat) (cap : Nat) (w : World) (hx : Wd w ao xs) (hf : Fit xs) :
    Calls Tryz.prog 7 #[.agg #[.int .i64 N, .slice ao xs.length cap]] w fun e w' => ∃ bo bc qo qc so sc tO tc, e = .returned (.tuple #[.agg #[.int .i64 (rbN N xs), .int .i64 (rbK N xs), .int .i64 (rbV N xs), .int .i64 (rbM N xs), .slice bo (rbC N xs).length bc, .int .i64 (rbL N xs), .slice qo (rbO N xs).length qc, .slice so (rbS N xs).length sc, .slice tO (rbT N xs).length tc], .int .i64 (rbE N xs)]) ∧ RO w' (rbC N xs) (rbO N xs) (rbS N xs) (rbT N xs) bo bc qo qc so sc tO tc ∧ Below w.heap.size w w' := by
  unfold rbN rbK rbV rbM rbC rbL rbO rbS rbT rbE
  cases hk : chk N xs with
  | false =>
    refine (r8build_bad N ao xs cap w hx hf hk).mono ?_
    rintro e w' ⟨rfl, hb⟩
    exact ⟨none, 0, none, 0, none, 0, none, 0, rfl, ⟨wd0' _ _, Nat.le_refl _, wd0' _ _, Nat.le_refl _, nd0 _ _, Nat.le_refl _, nd0 _ _, Nat.le_refl _⟩, hb⟩
  | true =>
    obtain ⟨h0, h1, _, _⟩ := chk_out N xs hk
    obtain ⟨m, rfl⟩ := Int.eq_ofNat_of_zero_le h0
    have := r8build_ok m ao xs cap w hx hf hk
    simp only [Int.toNat_natCast]
    exact this

/-- A row in blocks that is handed in. -/
structure RIn (w : World) (N k V M : Int) (ao : Option Addr) (xs : List Nat) (cap : Nat) (L : Int) (qo : Option Addr) (ys : List Nat) (dap : Nat) (so : Option Addr) (S : List Int) (sc : Nat) (tO : Option Addr) (T : List Int) (tc : Nat) : Prop where
  x : Wd w ao xs
  xf : Fit xs
  xc : xs.length ≤ cap
  y : Wd w qo ys
  yf : Fit ys
  yc : ys.length ≤ dap
  s : Nd w so S
  sl : S.length ≤ 1048576
  sc : S.length ≤ sc
  t : Nd w tO T
  tl : T.length ≤ 1048576
  tc : T.length ≤ tc
theorem RIn.keep {w w' : World} {N k V M : Int} {ao : Option Addr} {xs : List Nat} {cap : Nat} {L : Int} {qo : Option Addr} {ys : List Nat} {dap : Nat} {so : Option Addr} {S : List Int} {sc : Nat} {tO : Option Addr} {T : List Int} {tc : Nat} (h : RIn w N k V M ao xs cap L qo ys dap so S sc tO T tc) (hb : Below w.heap.size w w') : RIn w' N k V M ao xs cap L qo ys dap so S sc tO T tc :=
  ⟨h.x.keep hb, h.xf, h.xc, h.y.keep hb, h.yf, h.yc, h.s.keep hb, h.sl, h.sc, h.t.keep hb, h.tl, h.tc⟩

set_option maxHeartbeats 8000000 in
theorem r8whole_main (N k V M : Int) (ao : Option Addr) (xs : List Nat) (cap : Nat) (L : Int) (qo : Option Addr) (ys : List Nat) (dap : Nat) (so : Option Addr) (S : List Int) (sc : Nat) (tO : Option Addr) (T : List Int) (tc : Nat) (w : World) (h : RIn w N k V M ao xs cap L qo ys dap so S sc tO T tc) (h2 : 0 ≤ N) (h3 : ¬ 1048576 < N) (hik : ichk k V M xs = true) (hck : chk L ys = true) :
    Calls Tryz.prog 41 #[.agg #[.int .i64 N, .int .i64 k, .int .i64 V, .int .i64 M, .slice ao xs.length cap, .int .i64 L, .slice qo ys.length dap, .slice so S.length sc, .slice tO T.length tc]] w fun e w' => ∃ bo bc, e = .returned (.tuple #[.agg #[.int .i64 (rBN N k V M xs L ys S T), .slice bo (rBX N k V M xs L ys S T).length bc], .bool (rOk N k V M xs L ys S T)]) ∧ Wd w' bo (rBX N k V M xs L ys S T) ∧ (rBX N k V M xs L ys S T).length ≤ bc ∧ Below w.heap.size w w' := by
  obtain ⟨W, hW⟩ : ∃ W, W = (w.alloc (.cells #[.int .i64 N, .int .i64 k, .int .i64 V, .int .i64 M, .slice ao xs.length cap, .int .i64 L, .slice qo ys.length dap, .slice so S.length sc, .slice tO T.length tc] 30)).alloc (.cells #[.int .i64 0, .slice none 0 0] 24) := ⟨_, rfl⟩
  have bW : Below w.heap.size w W := by rw [hW]; exact (below_alloc w _).alloc (by simp) _
  have B1 : Cel W w.heap.size [.int .i64 N, .int .i64 k, .int .i64 V, .int .i64 M, .slice ao xs.length cap, .int .i64 L, .slice qo ys.length dap, .slice so S.length sc, .slice tO T.length tc] 30 := by rw [hW]; exact (Cel.new w _ _).alloc _
  have B2 : Cel W (w.heap.size + 1) [.int .i64 0, .slice none 0 0] 24 := by rw [hW]; exact Cel.new2 w _ _ _
  have C1 : Hid (∀ w0, Below w.heap.size w w0 → Calls Tryz.prog 75 #[.agg #[.int .i64 k, .int .i64 V, .int .i64 M, .slice ao xs.length cap]] w0 fun e w' => e = .returned (.bool (ichk k V M xs)) ∧ Below w0.heap.size w0 w') := fun w0 hb => irefcheck_c k V M ao xs cap w0 (h.x.keep hb) h.xf
  have C2 : Hid (∀ w0, Below w.heap.size w w0 → Calls Tryz.prog 30 #[.agg #[.int .i64 L, .slice qo ys.length dap]] w0 fun e w' => e = .returned (.bool (chk L ys)) ∧ Below w0.heap.size w0 w') := fun w0 hb => refcheck_c L qo ys dap w0 (h.y.keep hb) h.yf
  obtain ⟨Z1, hZ1⟩ : ∃ Z, Hid (Z = rBN N k V M xs L ys S T) := ⟨_, rfl⟩
  obtain ⟨Z2, hZ2⟩ : ∃ Z, Hid (Z = rBX N k V M xs L ys S T) := ⟨_, rfl⟩
  obtain ⟨Z3, hZ3⟩ : ∃ Z, Hid (Z = rOk N k V M xs L ys S T) := ⟨_, rfl⟩
  rw [← hZ1.out, ← hZ2.out, ← hZ3.out]
  have bad : Hid (rOk N k V M xs L ys S T = false → Z1 = 0 ∧ Z2 = [] ∧ Z3 = false) := fun h => by rw [hZ1.out, hZ2.out, hZ3.out]; unfold rBN rBX; rw [h]; exact ⟨rfl, rfl, rfl⟩
  have r0 := B1.cell 0 rfl
  have r1 := B1.cell 1 rfl
  have r2 := B1.cell 2 rfl
  have r3 := B1.cell 3 rfl
  have r4 := B1.cell 4 rfl
  have r5 := B1.cell 5 rfl
  have r6 := B1.cell 6 rfl
  have r7 := B1.cell 7 rfl
  have r8 := B1.cell 8 rfl
  have h4 : ¬ N < 0 := by omega
  rw [hik] at C1
  rw [hck] at C2
  obtain ⟨m, rfl⟩ := Int.eq_ofNat_of_zero_le h2
  obtain ⟨a1, a2, a3, a4, a5, a6, a7, a8⟩ := ichk_out k V M xs hik
  obtain ⟨n, rfl⟩ := Int.eq_ofNat_of_zero_le a3
  obtain ⟨v, rfl⟩ := Int.eq_ofNat_of_zero_le (show 0 ≤ V by omega)
  obtain ⟨O, hO⟩ : ∃ O, Hid (O = rDec m n v xs L ys) := ⟨_, rfl⟩
  have hO2 : decG m L ys ((List.range n).map (numAt v xs)) 0 [] = O := by rw [hO.out]; rfl
  have hOl : ∀ l, O = some l → l.length ≤ 1048576 := fun l e => rDec_len m n v xs L ys (by omega) l (hO.out.symm.trans e)
  have ck := rw_chk O hOl
  have RWc : Hid (∀ w0, Below w.heap.size w w0 → Calls Tryz.prog 76 #[.agg #[.int .i64 m, .int .i64 n, .int .i64 v, .int .i64 M, .slice ao xs.length cap, .int .i64 L, .slice qo ys.length dap, .slice so S.length sc, .slice tO T.length tc]] w0 fun e w' => ∃ bo bc, e = .returned (.agg #[.int .i64 (rwN O), .slice bo (rwX O).length bc]) ∧ Wd w' bo (rwX O) ∧ Fit (rwX O) ∧ (rwX O).length ≤ bc ∧ Below w0.heap.size w0 w') := fun w0 hb =>
    row_c m n v M ao xs cap L qo ys dap so S.length sc tO T.length tc w0 (by omega) (h.x.keep hb) h.xf hik (h.y.keep hb) h.yf O hO2
  have E : Hid (Z3 = rEq m n v M xs L ys S T (rwN O) (bitAt (rwX O))) := by
    show _ = _
    rw [hZ3.out]
    unfold rOk
    rw [hik, hck, ← hO.out, decide_eq_true (show (0 : Int) ≤ m ∧ (m : Int) ≤ 1048576 by omega)]
    rfl
  have E1 : Hid (Z1 = if Z3 then (rwN O : Int) else 0) := by show _ = _; rw [hZ1.out, hZ3.out, hO.out]; rfl
  have E2 : Hid (Z2 = if Z3 then rwX O else []) := by show _ = _; rw [hZ2.out, hZ3.out, hO.out]; rfl
  clear hZ1 hZ2 hZ3 bad hO hO2 hOl
  generalize rwN O = p at *
  generalize rwX O = X at *
  have BD : Hid (∀ w0 bo bc, Wd w0 bo X → Fit X → Calls Tryz.prog 7 #[.agg #[.int .i64 p, .slice bo X.length bc]] w0 fun e w' => ∃ co cc po pc uo uc vo vc, e = .returned (.tuple #[.agg #[.int .i64 p, .int .i64 (nb p), .int .i64 4, .int .i64 ((nb p : Int) * 4), .slice co (rC p (bitAt X)).length cc, .int .i64 (bat p (bitAt X) (nb p)), .slice po (rO p (bitAt X)).length pc, .slice uo (rS p (bitAt X)).length uc, .slice vo (rT p (bitAt X)).length vc], .int .i64 0]) ∧ RO w' (rC p (bitAt X)) (rO p (bitAt X)) (rS p (bitAt X)) (rT p (bitAt X)) co cc po pc uo uc vo vc ∧ Below w0.heap.size w0 w') := fun w0 bo bc hX hF => r8build_ok p bo X bc w0 hX hF ck
  have lx : xs.length ≤ 1048576 := by have := (chk_out M xs a5).2.2.1; omega
  have ly : ys.length ≤ 1048576 := by obtain ⟨_, _, h7, _⟩ := chk_out L ys hck; omega
  have SM : Hid (∀ w0 co cc po pc uo uc vo vc, Below w.heap.size w w0 → RO w0 (rC p (bitAt X)) (rO p (bitAt X)) (rS p (bitAt X)) (rT p (bitAt X)) co cc po pc uo uc vo vc → Calls Tryz.prog 8 #[.agg #[.int .i64 m, .int .i64 n, .int .i64 v, .int .i64 M, .slice ao xs.length cap, .int .i64 L, .slice qo ys.length dap, .slice so S.length sc, .slice tO T.length tc], .agg #[.int .i64 p, .int .i64 (nb p), .int .i64 4, .int .i64 ((nb p : Int) * 4), .slice co (rC p (bitAt X)).length cc, .int .i64 (bat p (bitAt X) (nb p)), .slice po (rO p (bitAt X)).length pc, .slice uo (rS p (bitAt X)).length uc, .slice vo (rT p (bitAt X)).length vc]] w0 fun e w' => e = .returned (.bool Z3) ∧ Below w0.heap.size w0 w') := fun w0 co cc po pc uo uc vo vc hb hr => by
    have h9 := h.keep hb
    rw [E.out]
    exact r8same_c m n v M ao xs cap L qo ys dap so S sc tO T tc p (nb p) 4 ((nb p : Int) * 4) co (rC p (bitAt X)) cc (bat p (bitAt X) (nb p)) po (rO p (bitAt X)) pc uo (rS p (bitAt X)) uc vo (rT p (bitAt X)) vc w0 h9.x hr.c lx h9.y hr.o ly h9.s hr.s h9.sl h9.t hr.t h9.tl
  clear ck a1 a2 a3 a4 a5 a6 a7 a8 lx ly
  go_enter Tryz.func41, Tryz.ntmps41
  go_upto_region 1 with fail
  rw [← hW]
  clear hW
  go_wp2_with fail
  refine (C1.out _ bW).mono ?_
  rintro e w1 ⟨rfl, hb⟩
  have bw1 := bW.trans (hb.mono bW.size)
  replace B1 := B1.kept hb
  replace B2 := B2.kept hb
  have q0 := B1.cell 0 rfl
  have q1 := B1.cell 1 rfl
  have q2 := B1.cell 2 rfl
  have q3 := B1.cell 3 rfl
  have q4 := B1.cell 4 rfl
  have q5 := B1.cell 5 rfl
  have q6 := B1.cell 6 rfl
  have q7 := B1.cell 7 rfl
  have q8 := B1.cell 8 rfl
  clear hb r0 r1 r2 r3 r4 r5 r6 r7 r8
  have r0 := q0
  have r1 := q1
  have r2 := q2
  have r3 := q3
  have r4 := q4
  have r5 := q5
  have r6 := q6
  have r7 := q7
  have r8 := q8
  clear q0 q1 q2 q3 q4 q5 q6 q7 q8
  go_wp2_with fail
  refine (C2.out _ bw1).mono ?_
  rintro e w2 ⟨rfl, hb⟩
  have bw2 := bw1.trans (hb.mono bw1.size)
  replace B1 := B1.kept hb
  replace B2 := B2.kept hb
  have q0 := B1.cell 0 rfl
  have q1 := B1.cell 1 rfl
  have q2 := B1.cell 2 rfl
  have q3 := B1.cell 3 rfl
  have q4 := B1.cell 4 rfl
  have q5 := B1.cell 5 rfl
  have q6 := B1.cell 6 rfl
  have q7 := B1.cell 7 rfl
  have q8 := B1.cell 8 rfl
  clear hb r0 r1 r2 r3 r4 r5 r6 r7 r8
  have r0 := q0
  have r1 := q1
  have r2 := q2
  have r3 := q3
  have r4 := q4
  have r5 := q5
  have r6 := q6
  have r7 := q7
  have r8 := q8
  clear q0 q1 q2 q3 q4 q5 q6 q7 q8
  go_wp2_with fail
  refine (RWc.out _ bw2).mono ?_
  rintro e w3 ⟨bo, bc, rfl, hX, hF, hbc, hb⟩
  have bw3 := bw2.trans (hb.mono bw2.size)
  replace B1 := B1.kept hb
  replace B2 := B2.kept hb
  clear hb RWc C1 C2 r0 r1 r2 r3 r4 r5 r6 r7 r8
  have z3 := B2.lt
  have n3 : w3.heap.size ≠ w.heap.size + 1 := by omega
  clear z3
  obtain ⟨U, hU⟩ : ∃ U, U = w3.alloc (.cells #[.int .i64 p, .slice bo X.length bc] 24) := ⟨_, rfl⟩
  have bA : Below w3.heap.size w3 U := by rw [hU]; exact below_alloc w3 _
  have bV := bw3.trans (bA.mono bw3.size)
  have D4 : Cel U w3.heap.size [.int .i64 p, .slice bo X.length bc] 24 := by rw [hU]; exact Cel.new w3 _ _
  replace B1 := B1.kept bA
  replace B2 := B2.kept bA
  replace hX := hX.keep bA
  clear bA
  go_wp2_with fail
  rw [← hU]
  clear hU
  refine (BD.out _ _ _ hX hF).mono ?_
  rintro e w5 ⟨co, cc, po, pc, uo, uc, vo, vc, rfl, hr, hb⟩
  have bw5 := bV.trans (hb.mono bV.size)
  replace B1 := B1.kept hb
  replace B2 := B2.kept hb
  replace D4 := D4.kept hb
  replace hX := hX.keep hb
  clear hb BD
  obtain ⟨V5, hV⟩ : ∃ V5, V5 = w5.alloc (.cells #[.int .i64 p, .int .i64 (nb p), .int .i64 4, .int .i64 ((nb p : Int) * 4), .slice co (rC p (bitAt X)).length cc, .int .i64 (bat p (bitAt X) (nb p)), .slice po (rO p (bitAt X)).length pc, .slice uo (rS p (bitAt X)).length uc, .slice vo (rT p (bitAt X)).length vc] 30) := ⟨_, rfl⟩
  have bA : Below w5.heap.size w5 V5 := by rw [hV]; exact below_alloc w5 _
  have bV5 := bw5.trans (bA.mono bw5.size)
  replace hr := hr.keep bA
  have r := B1.lt
  have r0 := B1.cell 0 rfl
  have r1 := B1.cell 1 rfl
  have r2 := B1.cell 2 rfl
  have r3 := B1.cell 3 rfl
  have r4 := B1.cell 4 rfl
  have r5 := B1.cell 5 rfl
  have r6 := B1.cell 6 rfl
  have r7 := B1.cell 7 rfl
  have r8 := B1.cell 8 rfl
  replace B2 := B2.kept bA
  replace D4 := D4.kept bA
  replace hX := hX.keep bA
  clear bA
  go_wp2_with fail
  rw [← hV]
  clear hV r r0 r1 r2 r3 r4 r5 r6 r7 r8
  refine (SM.out _ _ _ _ _ _ _ _ _ bV5 hr).mono ?_
  rintro e w6 ⟨rfl, hb⟩
  have bw6 := bV5.trans (hb.mono bV5.size)
  replace B2 := B2.kept hb
  replace D4 := D4.kept hb
  replace hX := hX.keep hb
  clear hb SM hr
  cases hz : Z3 with
  | false =>
    have E0 : Hid (Z1 = 0 ∧ Z2 = []) := by
      show _ ∧ _
      rw [E1.out, E2.out, hz]
      exact ⟨rfl, rfl⟩
    clear E E1 E2
    go_wp2_with (first | refine load_cel w3.heap.size _ rfl D4 Tryz.underlying24 r8info_b ?_ | refine store_cel (w.heap.size + 1) _ _ rfl rfl B2 rfl r8info_b (by simp [Value.oneCell']) ?_)
    intro w9 B9 O9
    have HZ := Hid.mk8 (And.intro B9 (bw6.trans (O9.below (Nat.le_succ _))))
    clear B9 O9 B2 D4 hX
    go_wp2
    (try simp only [Exit.inBlock, Exit.then])
    refine bodyPost_ret (result_cel rfl (w.heap.size + 1) _ rfl HZ.out.1 Tryz.underlying24 r8info_b) rfl ?_
    obtain ⟨e1, e2⟩ := E0.out
    rw [e1, e2, hz]
    exact ⟨none, 0, rfl, wd0' _ _, Nat.le_refl _, HZ.out.2⟩
  | true =>
    have E0 : Hid (Z1 = (p : Int) ∧ Z2 = X) := by
      show _ ∧ _
      rw [E1.out, E2.out, hz]
      exact ⟨rfl, rfl⟩
    clear E E1 E2
    have hne := hX.apart B2 (by intro v hv n; simp at hv; rcases hv with rfl | rfl <;> simp)
    go_wp2_with (first | refine load_cel w3.heap.size _ rfl D4 Tryz.underlying24 r8info_b ?_ | refine store_cel (w.heap.size + 1) _ _ rfl rfl B2 rfl r8info_b (by simp [Value.oneCell']) ?_)
    intro w9 B9 O9
    have HZ := Hid.mk8 (And.intro B9 (And.intro (O9.wd hX hne) (bw6.trans (O9.below (Nat.le_succ _)))))
    clear B9 O9 B2 D4 hX hne
    go_wp2
    (try simp only [Exit.inBlock, Exit.then])
    refine bodyPost_ret (result_cel rfl (w.heap.size + 1) _ rfl HZ.out.1 Tryz.underlying24 r8info_b) rfl ?_
    obtain ⟨e1, e2⟩ := E0.out
    rw [e1, e2, hz]
    exact ⟨bo, bc, rfl, HZ.out.2.1, hbc, HZ.out.2.2⟩

set_option maxHeartbeats 8000000 in
theorem r8whole_c (N k V M : Int) (ao : Option Addr) (xs : List Nat) (cap : Nat) (L : Int) (qo : Option Addr) (ys : List Nat) (dap : Nat) (so : Option Addr) (S : List Int) (sc : Nat) (tO : Option Addr) (T : List Int) (tc : Nat) (w : World) (h : RIn w N k V M ao xs cap L qo ys dap so S sc tO T tc) :
    Calls Tryz.prog 41 #[.agg #[.int .i64 N, .int .i64 k, .int .i64 V, .int .i64 M, .slice ao xs.length cap, .int .i64 L, .slice qo ys.length dap, .slice so S.length sc, .slice tO T.length tc]] w fun e w' => ∃ bo bc, e = .returned (.tuple #[.agg #[.int .i64 (rBN N k V M xs L ys S T), .slice bo (rBX N k V M xs L ys S T).length bc], .bool (rOk N k V M xs L ys S T)]) ∧ Wd w' bo (rBX N k V M xs L ys S T) ∧ (rBX N k V M xs L ys S T).length ≤ bc ∧ Below w.heap.size w w' := by
  obtain ⟨W, hW⟩ : ∃ W, W = (w.alloc (.cells #[.int .i64 N, .int .i64 k, .int .i64 V, .int .i64 M, .slice ao xs.length cap, .int .i64 L, .slice qo ys.length dap, .slice so S.length sc, .slice tO T.length tc] 30)).alloc (.cells #[.int .i64 0, .slice none 0 0] 24) := ⟨_, rfl⟩
  have bW : Below w.heap.size w W := by rw [hW]; exact (below_alloc w _).alloc (by simp) _
  have B1 : Cel W w.heap.size [.int .i64 N, .int .i64 k, .int .i64 V, .int .i64 M, .slice ao xs.length cap, .int .i64 L, .slice qo ys.length dap, .slice so S.length sc, .slice tO T.length tc] 30 := by rw [hW]; exact (Cel.new w _ _).alloc _
  have B2 : Cel W (w.heap.size + 1) [.int .i64 0, .slice none 0 0] 24 := by rw [hW]; exact Cel.new2 w _ _ _
  have C1 : Hid (∀ w0, Below w.heap.size w w0 → Calls Tryz.prog 75 #[.agg #[.int .i64 k, .int .i64 V, .int .i64 M, .slice ao xs.length cap]] w0 fun e w' => e = .returned (.bool (ichk k V M xs)) ∧ Below w0.heap.size w0 w') := fun w0 hb => irefcheck_c k V M ao xs cap w0 (h.x.keep hb) h.xf
  have C2 : Hid (∀ w0, Below w.heap.size w w0 → Calls Tryz.prog 30 #[.agg #[.int .i64 L, .slice qo ys.length dap]] w0 fun e w' => e = .returned (.bool (chk L ys)) ∧ Below w0.heap.size w0 w') := fun w0 hb => refcheck_c L qo ys dap w0 (h.y.keep hb) h.yf
  obtain ⟨Z1, hZ1⟩ : ∃ Z, Hid (Z = rBN N k V M xs L ys S T) := ⟨_, rfl⟩
  obtain ⟨Z2, hZ2⟩ : ∃ Z, Hid (Z = rBX N k V M xs L ys S T) := ⟨_, rfl⟩
  obtain ⟨Z3, hZ3⟩ : ∃ Z, Hid (Z = rOk N k V M xs L ys S T) := ⟨_, rfl⟩
  rw [← hZ1.out, ← hZ2.out, ← hZ3.out]
  have bad : Hid (rOk N k V M xs L ys S T = false → Z1 = 0 ∧ Z2 = [] ∧ Z3 = false) := fun h => by rw [hZ1.out, hZ2.out, hZ3.out]; unfold rBN rBX; rw [h]; exact ⟨rfl, rfl, rfl⟩
  have r0 := B1.cell 0 rfl
  have r1 := B1.cell 1 rfl
  have r2 := B1.cell 2 rfl
  have r3 := B1.cell 3 rfl
  have r4 := B1.cell 4 rfl
  have r5 := B1.cell 5 rfl
  have r6 := B1.cell 6 rfl
  have r7 := B1.cell 7 rfl
  have r8 := B1.cell 8 rfl
  by_cases h0 : N < 0
  · have E : Hid (Z1 = 0 ∧ Z2 = [] ∧ Z3 = false) := bad.out (by unfold rOk; rw [decide_eq_false (by omega)]; rfl)
    clear bad hZ1 hZ2 hZ3
    go_enter Tryz.func41, Tryz.ntmps41
    go_upto_region 1 with fail
    rw [← hW]
    clear hW
    go_wp2_with (refine store_cel (w.heap.size + 1) _ _ rfl rfl B2 rfl r8info_b (by simp [Value.oneCell']) ?_)
    intro w9 B9 O9
    have HZ := Hid.mk8 (And.intro B9 (bW.trans (O9.below (Nat.le_succ _))))
    clear B9 O9
    go_wp2
    (try simp only [Exit.inBlock, Exit.then])
    refine bodyPost_ret (result_cel rfl (w.heap.size + 1) _ rfl HZ.out.1 Tryz.underlying24 r8info_b) rfl ?_
    obtain ⟨e1, e2, e3⟩ := E.out
    rw [e1, e2, e3]
    exact ⟨none, 0, rfl, wd0' _ _, Nat.le_refl _, HZ.out.2⟩
  by_cases h1 : 1048576 < N
  · have E : Hid (Z1 = 0 ∧ Z2 = [] ∧ Z3 = false) := bad.out (by unfold rOk; rw [decide_eq_false (by omega)]; rfl)
    clear bad hZ1 hZ2 hZ3
    go_enter Tryz.func41, Tryz.ntmps41
    go_upto_region 1 with fail
    rw [← hW]
    clear hW
    go_wp2_with (refine store_cel (w.heap.size + 1) _ _ rfl rfl B2 rfl r8info_b (by simp [Value.oneCell']) ?_)
    intro w9 B9 O9
    have HZ := Hid.mk8 (And.intro B9 (bW.trans (O9.below (Nat.le_succ _))))
    clear B9 O9
    go_wp2
    (try simp only [Exit.inBlock, Exit.then])
    refine bodyPost_ret (result_cel rfl (w.heap.size + 1) _ rfl HZ.out.1 Tryz.underlying24 r8info_b) rfl ?_
    obtain ⟨e1, e2, e3⟩ := E.out
    rw [e1, e2, e3]
    exact ⟨none, 0, rfl, wd0' _ _, Nat.le_refl _, HZ.out.2⟩
  have h2 : 0 ≤ N := by omega
  have h3 : ¬ 1048576 < N := by omega
  have h4 : ¬ N < 0 := by omega
  cases hik : ichk k V M xs with
  | false =>
    have E : Hid (Z1 = 0 ∧ Z2 = [] ∧ Z3 = false) := bad.out (by unfold rOk; rw [hik]; simp)
    clear bad hZ1 hZ2 hZ3
    rw [hik] at C1
    go_enter Tryz.func41, Tryz.ntmps41
    go_upto_region 1 with fail
    rw [← hW]
    clear hW
    go_wp2_with fail
    refine (C1.out _ bW).mono ?_
    rintro e w1 ⟨rfl, hb⟩
    have bw1 := bW.trans (hb.mono bW.size)
    replace B1 := B1.kept hb
    replace B2 := B2.kept hb
    have q0 := B1.cell 0 rfl
    have q1 := B1.cell 1 rfl
    have q2 := B1.cell 2 rfl
    have q3 := B1.cell 3 rfl
    have q4 := B1.cell 4 rfl
    have q5 := B1.cell 5 rfl
    have q6 := B1.cell 6 rfl
    have q7 := B1.cell 7 rfl
    have q8 := B1.cell 8 rfl
    clear hb r0 r1 r2 r3 r4 r5 r6 r7 r8
    have r0 := q0
    have r1 := q1
    have r2 := q2
    have r3 := q3
    have r4 := q4
    have r5 := q5
    have r6 := q6
    have r7 := q7
    have r8 := q8
    clear q0 q1 q2 q3 q4 q5 q6 q7 q8
    go_wp2_with (refine store_cel (w.heap.size + 1) _ _ rfl rfl B2 rfl r8info_b (by simp [Value.oneCell']) ?_)
    intro w9 B9 O9
    have HZ := Hid.mk8 (And.intro B9 (bw1.trans (O9.below (Nat.le_succ _))))
    clear B9 O9
    go_wp2
    (try simp only [Exit.inBlock, Exit.then])
    refine bodyPost_ret (result_cel rfl (w.heap.size + 1) _ rfl HZ.out.1 Tryz.underlying24 r8info_b) rfl ?_
    obtain ⟨e1, e2, e3⟩ := E.out
    rw [e1, e2, e3]
    exact ⟨none, 0, rfl, wd0' _ _, Nat.le_refl _, HZ.out.2⟩
  | true =>
    rw [hik] at C1
    cases hck : chk L ys with
    | false =>
      have E : Hid (Z1 = 0 ∧ Z2 = [] ∧ Z3 = false) := bad.out (by unfold rOk; rw [hik, hck]; simp)
      clear bad hZ1 hZ2 hZ3
      rw [hck] at C2
      go_enter Tryz.func41, Tryz.ntmps41
      go_upto_region 1 with fail
      rw [← hW]
      clear hW
      go_wp2_with fail
      refine (C1.out _ bW).mono ?_
      rintro e w1 ⟨rfl, hb⟩
      have bw1 := bW.trans (hb.mono bW.size)
      replace B1 := B1.kept hb
      replace B2 := B2.kept hb
      have q0 := B1.cell 0 rfl
      have q1 := B1.cell 1 rfl
      have q2 := B1.cell 2 rfl
      have q3 := B1.cell 3 rfl
      have q4 := B1.cell 4 rfl
      have q5 := B1.cell 5 rfl
      have q6 := B1.cell 6 rfl
      have q7 := B1.cell 7 rfl
      have q8 := B1.cell 8 rfl
      clear hb r0 r1 r2 r3 r4 r5 r6 r7 r8
      have r0 := q0
      have r1 := q1
      have r2 := q2
      have r3 := q3
      have r4 := q4
      have r5 := q5
      have r6 := q6
      have r7 := q7
      have r8 := q8
      clear q0 q1 q2 q3 q4 q5 q6 q7 q8
      go_wp2_with fail
      refine (C2.out _ bw1).mono ?_
      rintro e w2 ⟨rfl, hb⟩
      have bw2 := bw1.trans (hb.mono bw1.size)
      replace B1 := B1.kept hb
      replace B2 := B2.kept hb
      have q0 := B1.cell 0 rfl
      have q1 := B1.cell 1 rfl
      have q2 := B1.cell 2 rfl
      have q3 := B1.cell 3 rfl
      have q4 := B1.cell 4 rfl
      have q5 := B1.cell 5 rfl
      have q6 := B1.cell 6 rfl
      have q7 := B1.cell 7 rfl
      have q8 := B1.cell 8 rfl
      clear hb r0 r1 r2 r3 r4 r5 r6 r7 r8
      have r0 := q0
      have r1 := q1
      have r2 := q2
      have r3 := q3
      have r4 := q4
      have r5 := q5
      have r6 := q6
      have r7 := q7
      have r8 := q8
      clear q0 q1 q2 q3 q4 q5 q6 q7 q8
      go_wp2_with (refine store_cel (w.heap.size + 1) _ _ rfl rfl B2 rfl r8info_b (by simp [Value.oneCell']) ?_)
      intro w9 B9 O9
      have HZ := Hid.mk8 (And.intro B9 (bw2.trans (O9.below (Nat.le_succ _))))
      clear B9 O9
      go_wp2
      (try simp only [Exit.inBlock, Exit.then])
      refine bodyPost_ret (result_cel rfl (w.heap.size + 1) _ rfl HZ.out.1 Tryz.underlying24 r8info_b) rfl ?_
      obtain ⟨e1, e2, e3⟩ := E.out
      rw [e1, e2, e3]
      exact ⟨none, 0, rfl, wd0' _ _, Nat.le_refl _, HZ.out.2⟩
    | true =>
      rw [hZ1.out, hZ2.out, hZ3.out]
      exact r8whole_main N k V M ao xs cap L qo ys dap so S sc tO T tc w h h2 h3 hik hck
end Go.Proofs.YtmkmpggpjlikaaaGreatDoor
