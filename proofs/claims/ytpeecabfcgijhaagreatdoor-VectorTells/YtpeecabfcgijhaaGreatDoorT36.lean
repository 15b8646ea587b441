/-
  The contracts of the document's Check, Bits, Access, Rank and Select, over that of its Whole. The contracts of the document's Check, Bits, Access, Rank, Select, Size and Same, over objects.
-/
import Derived.Test.YtpeecabfcgijhaaGreatDoorT11
import Derived.Test.YtpeecabfcgijhaaGreatDoorT08
import Derived.Test.YtpeecabfcgijhaaGreatDoorT02
import Derived.Test.YtpeecabfcgijhaaGreatDoorT12
import Derived.Test.YtpeecabfcgijhaaGreatDoorT35
set_option linter.unusedVariables false
set_option linter.unusedSimpArgs false
set_option maxRecDepth 100000
set_option maxHeartbeats 16000000
namespace Go.Proofs.YtpeecabfcgijhaaGreatDoor
open Go.RowKit Num Bit
theorem v10info_b : (Tryz.prog.info? 24).map (·.size) = some 2 := by kernel_rfl
theorem v10check_g (cs : List Value) (IL : Hid ((Tryz.prog.info? 37).map (·.size) = some cs.length)) (ok : Bool) (N : Int) (X : List Nat) (w : World) (hf : Fit X) (hck : ok = true → chk N X = true) (C1 : Hid (∀ w0, Below w.heap.size w w0 → Calls Tryz.prog 54 #[.agg cs.toArray] w0 fun e w' => ∃ bo bc, e = .returned (.tuple #[.agg #[.int .i64 N, .slice bo X.length bc], .bool ok]) ∧ Wd w' bo X ∧ X.length ≤ bc ∧ Below w0.heap.size w0 w')) :
  Calls Tryz.prog 22 #[.agg cs.toArray] w fun e w' => e = .returned (.bool ok) ∧ Below w.heap.size w w' := by
 have bW : Below w.heap.size w (w.alloc (.cells cs.toArray 37)) := below_alloc w _
 have BX := Cel.new w cs 37
 go_enter Tryz.func22, Tryz.ntmps22
 go_wp2_with (refine load_obj w.heap.size cs (by rfl) rfl BX Tryz.underlying37 IL.out ?_)
 refine (C1.out _ bW).mono ?_
 rintro e w1 ⟨bo, bc, rfl, hx, hbc, hb⟩
 have bw1 := bW.trans (hb.mono bW.size)
 clear hb C1 BX
 have bA := below_alloc w1 (.cells #[.int .i64 N, .slice bo X.length bc] 24)
 have bw2 := bw1.trans (bA.mono bw1.size)
 go_wp2
 go_ret
 exact ⟨rfl, bw2⟩
theorem v10bits_g (cs : List Value) (IL : Hid ((Tryz.prog.info? 37).map (·.size) = some cs.length)) (ok : Bool) (N : Int) (X : List Nat) (w : World) (hf : Fit X) (hck : ok = true → chk N X = true) (C1 : Hid (∀ w0, Below w.heap.size w w0 → Calls Tryz.prog 54 #[.agg cs.toArray] w0 fun e w' => ∃ bo bc, e = .returned (.tuple #[.agg #[.int .i64 N, .slice bo X.length bc], .bool ok]) ∧ Wd w' bo X ∧ X.length ≤ bc ∧ Below w0.heap.size w0 w')) :
  Calls Tryz.prog 25 #[.agg cs.toArray] w fun e w' => ∃ bo bc, e = .returned (.agg #[.int .i64 N, .slice bo X.length bc]) ∧ Wd w' bo X ∧ X.length ≤ bc ∧ Below w.heap.size w w' := by
 have bW : Below w.heap.size w ((w.alloc (.cells cs.toArray 37)).alloc (.cells #[.int .i64 0, .slice none 0 0] 24)) := (below_alloc w _).alloc (by simp) _
 have BX : Cel ((w.alloc (.cells cs.toArray 37)).alloc (.cells #[.int .i64 0, .slice none 0 0] 24)) w.heap.size cs 37 := (Cel.new w cs 37).alloc _
 have B2 : Cel ((w.alloc (.cells cs.toArray 37)).alloc (.cells #[.int .i64 0, .slice none 0 0] 24)) (w.heap.size + 1) [.int .i64 0, .slice none 0 0] 24 := Cel.new2 w _ _ _
 go_enter Tryz.func25, Tryz.ntmps25
 go_wp2_with (refine load_obj w.heap.size cs (by rfl) rfl BX Tryz.underlying37 IL.out ?_)
 refine (C1.out _ bW).mono ?_
 rintro e w1 ⟨bo, bc, rfl, hx, hbc, hb⟩
 have bw1 := bW.trans (hb.mono bW.size)
 have z2 : w.heap.size + 1 < w1.heap.size := Nat.lt_of_lt_of_le B2.lt hb.size
 replace B2 := B2.kept hb
 have bA := below_alloc w1 (.cells #[.int .i64 N, .slice bo X.length bc] 24)
 replace B2 := B2.kept bA
 have hx2 := hx.keep bA
 have bw2 := bw1.trans (bA.mono bw1.size)
 have D1 := Cel.new w1 [.int .i64 N, .slice bo X.length bc] 24
 have hne := hx2.apart B2 (by intro v hv n; simp at hv; rcases hv with rfl | rfl <;> simp)
 go_wp2_with (first | refine load_cel w1.heap.size _ rfl D1 Tryz.underlying24 v10info_b ?_ | refine store_cel (w.heap.size + 1) _ _ rfl rfl B2 rfl v10info_b (by simp [Value.oneCell']) ?_)
 intro w3 B3 O3
 have HZ : Hid (Cel w3 (w.heap.size + 1) [.int .i64 N, .slice bo X.length bc] 24 ∧ Wd w3 bo X ∧ Below w.heap.size w w3) := ⟨B3, O3.wd hx2 hne, bw2.trans (O3.below (Nat.le_succ _))⟩
 clear B3 O3 hx hx2 hb B2 D1 BX
 go_wp2
 (try simp only [Exit.inBlock, Exit.then])
 exact bodyPost_ret (result_cel1 rfl (w.heap.size + 1) _ rfl HZ.out.1 Tryz.underlying24 v10info_b) rfl ⟨bo, bc, rfl, HZ.out.2.1, hbc, HZ.out.2.2⟩
theorem v10access_g (cs : List Value) (IL : Hid ((Tryz.prog.info? 37).map (·.size) = some cs.length)) (i : Int) (ok : Bool) (N : Int) (X : List Nat) (w : World) (hf : Fit X) (hck : ok = true → chk N X = true) (C1 : Hid (∀ w0, Below w.heap.size w w0 → Calls Tryz.prog 54 #[.agg cs.toArray] w0 fun e w' => ∃ bo bc, e = .returned (.tuple #[.agg #[.int .i64 N, .slice bo X.length bc], .bool ok]) ∧ Wd w' bo X ∧ X.length ≤ bc ∧ Below w0.heap.size w0 w')) :
  Calls Tryz.prog 18 #[.agg cs.toArray, .int .i64 i] w fun e w' => e = .returned (.tuple #[.bool (gaB ok N X i), .int .i64 (gaE ok N X i)]) ∧ Below w.heap.size w w' := by
 have bW : Below w.heap.size w (w.alloc (.cells cs.toArray 37)) := below_alloc w _
 have BX := Cel.new w cs 37
 obtain ⟨P1, hP1⟩ : ∃ P : Bool, Hid (P = gaB ok N X i) := ⟨gaB ok N X i, (rfl : gaB ok N X i = gaB ok N X i)⟩
 obtain ⟨P2, hP2⟩ : ∃ P : Int, Hid (P = gaE ok N X i) := ⟨gaE ok N X i, (rfl : gaE ok N X i = gaE ok N X i)⟩
 rw [← hP1.out, ← hP2.out]
 cases hk : ok with
 | false =>
  subst hk
  have E : Hid (P1 = false ∧ P2 = 2) := by
   show _ ∧ _
   rw [hP1.out, hP2.out]
   unfold gaB gaE
   exact ⟨rfl, rfl⟩
  go_enter Tryz.func18, Tryz.ntmps18
  go_wp2_with (refine load_obj w.heap.size cs (by rfl) rfl BX Tryz.underlying37 IL.out ?_)
  refine (C1.out _ bW).mono ?_
  rintro e w1 ⟨bo, bc, rfl, hx, hbc, hb⟩
  have bw1 := bW.trans (hb.mono bW.size)
  clear hb C1 BX
  have bA := below_alloc w1 (.cells #[.int .i64 N, .slice bo X.length bc] 24)
  have bw2 := bw1.trans (bA.mono bw1.size)
  go_wp2
  go_ret2
  rw [E.out.1, E.out.2]
  exact ⟨rfl, bw2⟩
 | true =>
  subst hk
  have E : Hid (P1 = getB N X i ∧ P2 = getE N X i) := by
   show _ ∧ _
   rw [hP1.out, hP2.out]
   unfold gaB gaE
   exact ⟨rfl, rfl⟩
  have C2 : Hid (∀ w0 bo bc, Wd w0 bo X → Calls Tryz.prog 55 #[.agg #[.int .i64 N, .slice bo X.length bc], .int .i64 i] w0 fun e w' => e = .returned (.tuple #[.bool P1, .int .i64 P2]) ∧ Below w0.heap.size w0 w') := fun w0 bo bc h => by
   rw [E.out.1, E.out.2]
   exact refget_c N bo X bc i w0 h hf
  go_enter Tryz.func18, Tryz.ntmps18
  go_wp2_with (refine load_obj w.heap.size cs (by rfl) rfl BX Tryz.underlying37 IL.out ?_)
  refine (C1.out _ bW).mono ?_
  rintro e w1 ⟨bo, bc, rfl, hx, hbc, hb⟩
  have bw1 := bW.trans (hb.mono bW.size)
  clear hb C1 BX
  have bA := below_alloc w1 (.cells #[.int .i64 N, .slice bo X.length bc] 24)
  have bw2 := bw1.trans (bA.mono bw1.size)
  have hx2 := hx.keep bA
  go_wp2_with fail
  refine (C2.out _ _ _ hx2).mono ?_
  rintro e w2 ⟨rfl, hb2⟩
  have bw3 := bw2.trans (hb2.mono bw2.size)
  go_wp2
  go_ret2
  exact ⟨rfl, bw3⟩
theorem v10onesI_in (N : Int) (xs : List Nat) (i : Nat) (hk : chk N xs = true) (hi : (i : Int) ≤ N) : onesI N xs i = (cntB xs i : Int) := by
 unfold onesI
 rw [hk, show min (i : Int) N = (i : Int) by omega, Int.toNat_natCast]
 rfl
theorem v10rank_g (cs : List Value) (IL : Hid ((Tryz.prog.info? 37).map (·.size) = some cs.length)) (bit : Bool) (i : Int) (ok : Bool) (N : Int) (X : List Nat) (w : World) (hf : Fit X) (hck : ok = true → chk N X = true) (C1 : Hid (∀ w0, Below w.heap.size w w0 → Calls Tryz.prog 54 #[.agg cs.toArray] w0 fun e w' => ∃ bo bc, e = .returned (.tuple #[.agg #[.int .i64 N, .slice bo X.length bc], .bool ok]) ∧ Wd w' bo X ∧ X.length ≤ bc ∧ Below w0.heap.size w0 w')) :
  Calls Tryz.prog 19 #[.agg cs.toArray, .bool bit, .int .i64 i] w fun e w' => e = .returned (.tuple #[.int .i64 (grN ok N X bit i), .int .i64 (grE ok N i)]) ∧ Below w.heap.size w w' := by
 have bW : Below w.heap.size w (w.alloc (.cells cs.toArray 37)) := below_alloc w _
 have BX := Cel.new w cs 37
 obtain ⟨P1, hP1⟩ : ∃ P : Int, Hid (P = grN ok N X bit i) := ⟨grN ok N X bit i, (rfl : grN ok N X bit i = grN ok N X bit i)⟩
 obtain ⟨P2, hP2⟩ : ∃ P : Int, Hid (P = grE ok N i) := ⟨grE ok N i, (rfl : grE ok N i = grE ok N i)⟩
 rw [← hP1.out, ← hP2.out]
 cases hk : ok with
 | false =>
  subst hk
  have E : Hid (P1 = 0 ∧ P2 = 2) := by
   show _ ∧ _
   rw [hP1.out, hP2.out]
   unfold grN grE
   exact ⟨rfl, rfl⟩
  go_enter Tryz.func19, Tryz.ntmps19
  go_wp2_with (refine load_obj w.heap.size cs (by rfl) rfl BX Tryz.underlying37 IL.out ?_)
  refine (C1.out _ bW).mono ?_
  rintro e w1 ⟨bo, bc, rfl, hx, hbc, hb⟩
  have bw1 := bW.trans (hb.mono bW.size)
  clear hb C1 BX
  have bA := below_alloc w1 (.cells #[.int .i64 N, .slice bo X.length bc] 24)
  have bw2 := bw1.trans (bA.mono bw1.size)
  go_wp2
  go_ret2
  rw [E.out.1, E.out.2]
  exact ⟨rfl, bw2⟩
 | true =>
  subst hk
  replace hck := hck rfl
  obtain ⟨h0, h1, -, -⟩ := chk_out N X hck
  by_cases hi : i < 0
  ·have E : Hid (P1 = 0 ∧ P2 = 3) := by
    show _ ∧ _
    have e2 : grE true N i = 3 := by unfold grE; rw [if_pos rfl, if_pos (.inl hi)]
    rw [hP1.out, hP2.out]
    unfold grN
    rw [e2]
    exact ⟨rfl, rfl⟩
   go_enter Tryz.func19, Tryz.ntmps19
   go_wp2_with (refine load_obj w.heap.size cs (by rfl) rfl BX Tryz.underlying37 IL.out ?_)
   refine (C1.out _ bW).mono ?_
   rintro e w1 ⟨bo, bc, rfl, hx, hbc, hb⟩
   have bw1 := bW.trans (hb.mono bW.size)
   clear hb C1 BX
   have bA := below_alloc w1 (.cells #[.int .i64 N, .slice bo X.length bc] 24)
   have bw2 := bw1.trans (bA.mono bw1.size)
   go_wp2
   go_ret2
   rw [E.out.1, E.out.2]
   exact ⟨rfl, bw2⟩
  by_cases hi2 : N < i
  ·have E : Hid (P1 = 0 ∧ P2 = 3) := by
    show _ ∧ _
    have e2 : grE true N i = 3 := by unfold grE; rw [if_pos rfl, if_pos (.inr hi2)]
    rw [hP1.out, hP2.out]
    unfold grN
    rw [e2]
    exact ⟨rfl, rfl⟩
   go_enter Tryz.func19, Tryz.ntmps19
   go_wp2_with (refine load_obj w.heap.size cs (by rfl) rfl BX Tryz.underlying37 IL.out ?_)
   refine (C1.out _ bW).mono ?_
   rintro e w1 ⟨bo, bc, rfl, hx, hbc, hb⟩
   have bw1 := bW.trans (hb.mono bW.size)
   clear hb C1 BX
   have bA := below_alloc w1 (.cells #[.int .i64 N, .slice bo X.length bc] 24)
   have bw2 := bw1.trans (bA.mono bw1.size)
   go_wp2
   go_ret2
   rw [E.out.1, E.out.2]
   exact ⟨rfl, bw2⟩
  have E : Hid (P1 = (cB X bit i.toNat : Int) ∧ P2 = 0) := by
   show _ ∧ _
   have e2 : grE true N i = 0 := by unfold grE; rw [if_pos rfl, if_neg (by omega)]
   rw [hP1.out, hP2.out]
   unfold grN
   rw [e2]
   exact ⟨rfl, rfl⟩
  obtain ⟨k, rfl⟩ := Int.eq_ofNat_of_zero_le (show 0 ≤ i by omega)
  have hc := cntB_le X k
  have C2 : Hid (∀ w0 bo bc, Wd w0 bo X → Calls Tryz.prog 56 #[.agg #[.int .i64 N, .slice bo X.length bc], .int .i64 k] w0 fun e w' => e = .returned (.int .i64 (cntB X k)) ∧ Below w0.heap.size w0 w') := fun w0 bo bc h => by
   have := refones_c N bo X bc k w0 h hf
   rw [v10onesI_in N X k hck (by omega)] at this
   exact this
  rw [Int.toNat_natCast] at E
  cases bit with
  | true =>
   rw [show cB X true k = cntB X k from rfl] at E
   generalize cntB X k = Z at *
   go_enter Tryz.func19, Tryz.ntmps19
   go_wp2_with (refine load_obj w.heap.size cs (by rfl) rfl BX Tryz.underlying37 IL.out ?_)
   refine (C1.out _ bW).mono ?_
   rintro e w1 ⟨bo, bc, rfl, hx, hbc, hb⟩
   have bw1 := bW.trans (hb.mono bW.size)
   clear hb C1 BX
   have bA := below_alloc w1 (.cells #[.int .i64 N, .slice bo X.length bc] 24)
   have bw2 := bw1.trans (bA.mono bw1.size)
   have hx2 := hx.keep bA
   go_wp2_with fail
   refine (C2.out _ _ _ hx2).mono ?_
   rintro e w2 ⟨rfl, hb2⟩
   have bw3 := bw2.trans (hb2.mono bw2.size)
   go_wp2
   go_ret2
   rw [E.out.1, E.out.2]
   exact ⟨rfl, bw3⟩
  | false =>
   rw [show cB X false k = k - cntB X k from rfl] at E
   generalize cntB X k = Z at *
   have eZ : Hid (((k - Z : Nat) : Int) = (k : Int) - (Z : Int)) := by show ((k - Z : Nat) : Int) = (k : Int) - (Z : Int); omega
   go_enter Tryz.func19, Tryz.ntmps19
   go_wp2_with (refine load_obj w.heap.size cs (by rfl) rfl BX Tryz.underlying37 IL.out ?_)
   refine (C1.out _ bW).mono ?_
   rintro e w1 ⟨bo, bc, rfl, hx, hbc, hb⟩
   have bw1 := bW.trans (hb.mono bW.size)
   clear hb C1 BX
   have bA := below_alloc w1 (.cells #[.int .i64 N, .slice bo X.length bc] 24)
   have bw2 := bw1.trans (bA.mono bw1.size)
   have hx2 := hx.keep bA
   go_wp2_with fail
   refine (C2.out _ _ _ hx2).mono ?_
   rintro e w2 ⟨rfl, hb2⟩
   have bw3 := bw2.trans (hb2.mono bw2.size)
   go_wp2
   go_ret2
   rw [E.out.1, E.out.2, eZ.out]
   exact ⟨rfl, bw3⟩
theorem v10select_g (cs : List Value) (IL : Hid ((Tryz.prog.info? 37).map (·.size) = some cs.length)) (bit : Bool) (k : Int) (ok : Bool) (N : Int) (X : List Nat) (w : World) (hf : Fit X) (hck : ok = true → chk N X = true) (C1 : Hid (∀ w0, Below w.heap.size w w0 → Calls Tryz.prog 54 #[.agg cs.toArray] w0 fun e w' => ∃ bo bc, e = .returned (.tuple #[.agg #[.int .i64 N, .slice bo X.length bc], .bool ok]) ∧ Wd w' bo X ∧ X.length ≤ bc ∧ Below w0.heap.size w0 w')) :
  Calls Tryz.prog 20 #[.agg cs.toArray, .bool bit, .int .i64 k] w fun e w' => e = .returned (.tuple #[.int .i64 (gsX ok N X bit k), .int .i64 (gsE ok N X bit k)]) ∧ Below w.heap.size w w' := by
 have bW : Below w.heap.size w (w.alloc (.cells cs.toArray 37)) := below_alloc w _
 have BX := Cel.new w cs 37
 obtain ⟨P1, hP1⟩ : ∃ P : Int, Hid (P = gsX ok N X bit k) := ⟨gsX ok N X bit k, (rfl : gsX ok N X bit k = gsX ok N X bit k)⟩
 obtain ⟨P2, hP2⟩ : ∃ P : Int, Hid (P = gsE ok N X bit k) := ⟨gsE ok N X bit k, (rfl : gsE ok N X bit k = gsE ok N X bit k)⟩
 rw [← hP1.out, ← hP2.out]
 cases hk : ok with
 | false =>
  subst hk
  have E : Hid (P1 = 0 ∧ P2 = 2) := by
   show _ ∧ _
   rw [hP1.out, hP2.out]
   unfold gsX gsE
   exact ⟨rfl, rfl⟩
  go_enter Tryz.func20, Tryz.ntmps20
  go_wp2_with (refine load_obj w.heap.size cs (by rfl) rfl BX Tryz.underlying37 IL.out ?_)
  refine (C1.out _ bW).mono ?_
  rintro e w1 ⟨bo, bc, rfl, hx, hbc, hb⟩
  have bw1 := bW.trans (hb.mono bW.size)
  clear hb C1 BX
  have bA := below_alloc w1 (.cells #[.int .i64 N, .slice bo X.length bc] 24)
  have bw2 := bw1.trans (bA.mono bw1.size)
  go_wp2
  go_ret2
  rw [E.out.1, E.out.2]
  exact ⟨rfl, bw2⟩
 | true =>
  subst hk
  replace hck := hck rfl
  obtain ⟨h0, h1, h2, -⟩ := chk_out N X hck
  obtain ⟨m, rfl⟩ := Int.eq_ofNat_of_zero_le h0
  have E1 : ∀ o, pselO m X bit k = o → P1 = ((o.getD 0 : Nat) : Int) ∧ P2 = (if o.isSome = true then (0 : Int) else 3) := fun o ho => by
   rw [hP1.out, hP2.out]
   unfold gsX gsE
   rw [ho]
   exact ⟨rfl, rfl⟩
  have E : Hid (∀ o, pselO m X bit k = o → P1 = ((o.getD 0 : Nat) : Int) ∧ P2 = (if o.isSome = true then (0 : Int) else 3)) := E1
  clear E1
  have HL : Hid (∀ j, j < m → j / 64 < X.length) := fun j hj => by omega
  clear h2
  go_enter Tryz.func20, Tryz.ntmps20
  go_wp2_with (refine load_obj w.heap.size cs (by rfl) rfl BX Tryz.underlying37 IL.out ?_)
  refine (C1.out _ bW).mono ?_
  rintro e w1 ⟨bo, bc, rfl, hx, hbc, hb⟩
  have bw1 := bW.trans (hb.mono bW.size)
  clear hb C1 BX
  have bA := below_alloc w1 (.cells #[.int .i64 m, .slice bo X.length bc] 24)
  have bw2 := bw1.trans (bA.mono bw1.size)
  have D0 := Cel.new w1 [.int .i64 m, .slice bo X.length bc] 24
  have hx2 := hx.keep bA
  go_wp2
  go_loopw [10, 11] (fun n i wr => ∃ q c : Nat, q ≤ m ∧ i = .int .i64 q ∧ n = .int .i64 c ∧ c ≤ q ∧ Hid (c = cB X bit q) ∧ Hid (∀ j, j < q → here X bit k j = false) ∧ Cel wr w1.heap.size [.int .i64 m, .slice bo X.length bc] 24 ∧ Wd wr bo X ∧ Below w.heap.size w wr) (fun _ i _ => m - (intOf i).toNat)
  case atStart => exact ⟨0, 0, by omega, rfl, rfl, by omega, by show 0 = cB X bit 0; have := cB_le X bit 0; omega, fun j hj => absurd hj (by omega), D0, hx2, bw2⟩
  case round =>
   obtain ⟨q, c, hq, rfl, rfl, hcq, Hc, Hh, hD, hxr, hwr⟩ := hrel
   have r0 := hD.cell 0 rfl
   have r1 := hD.cell 1 rfl
   by_cases hlt : q < m
   ·have hlt2 : (q : Int) < (m : Int) := by omega
    have C2 : Hid (∀ w0, Wd w0 bo X → Calls Tryz.prog 57 #[.agg #[.int .i64 m, .slice bo X.length bc], .int .i64 q] w0 fun e w' => e = .returned (.bool (bitAt X q)) ∧ Below w0.heap.size w0 w') := fun w0 h => at_c m bo X bc q w0 h (HL.out q hlt) (by omega)
    go_wp2_with fail
    refine (C2.out _ hxr).mono ?_
    rintro e w2 ⟨rfl, hb2⟩
    have hw2 := hwr.trans (hb2.mono hwr.size)
    have hD2 := hD.kept hb2
    have hx3 := hxr.keep hb2
    clear hb2 r0 r1
    by_cases hbit : bitAt X q = bit
    ·have nb : (bitAt X q != bit) = false := by simp [hbit]
     by_cases hck2 : (c : Int) = k
     ·have hh : here X bit k q = true := by
       unfold here
       rw [← Hc.out]
       simp [hbit, hck2]
      have hs := psel_some m X bit k q (by omega) hh
      have RS : Hid (P1 = (q : Int) ∧ P2 = 0) := E.out (some q) hs
      have ek : ((c : Int) == k) = true := by simp [hck2]
      clear hs hh
      go_wp2
      go_ret2
      rw [RS.out.1, RS.out.2]
      exact ⟨rfl, hw2⟩
     ·have ek : ((c : Int) == k) = false := by simp [hck2]
      have hn : here X bit k q = false := by
       unfold here
       rw [← Hc.out]
       simp [hck2]
      have Hc2 : Hid (c + 1 = cB X bit (q + 1)) := by show c + 1 = cB X bit (q + 1); rw [cB_succ, if_pos hbit, ← Hc.out]
      have Hh2 : Hid (∀ j, j < q + 1 → here X bit k j = false) := fun j hj => by
       by_cases e : j = q
       ·subst e; exact hn
       ·exact Hh.out j (by omega)
      clear hn Hc Hh
      go_wp2
      exact ⟨⟨q + 1, c + 1, by omega, by go_num, by go_num, by omega, Hc2, Hh2, hD2, hx3, hw2⟩, by simp only [intOf]; omega⟩
    ·have nb : (bitAt X q != bit) = true := by simp [hbit]
     have nb2 : (bitAt X q == bit) = false := by simp [hbit]
     have nb3 : (bitAt X q ^^ bit) = true := by revert hbit; cases bitAt X q <;> cases bit <;> simp
     have hn : here X bit k q = false := by
      unfold here
      simp [hbit]
     have Hc2 : Hid (c = cB X bit (q + 1)) := by show c = cB X bit (q + 1); rw [cB_succ, if_neg hbit, ← Hc.out]; rfl
     have Hh2 : Hid (∀ j, j < q + 1 → here X bit k j = false) := fun j hj => by
      by_cases e : j = q
      ·subst e; exact hn
      ·exact Hh.out j (by omega)
     clear hn Hc Hh
     go_wp2
     exact ⟨⟨q + 1, c, by omega, by go_num, rfl, by omega, Hc2, Hh2, hD2, hx3, hw2⟩, by simp only [intOf]; omega⟩
   ·obtain rfl : q = m := by omega
    have hs : pselO q X bit k = none := psel_none q X bit k (fun i hi => Hh.out i (by rw [Int.toNat_natCast] at hi; exact hi))
    have RS : Hid (P1 = 0 ∧ P2 = 3) := E.out none hs
    clear hs
    go_wp2
    go_ret2
    rw [RS.out.1, RS.out.2]
    exact ⟨rfl, hwr⟩
theorem KI.fit {w : World} {cs : List Value} {a : RA} (h : KI w cs a) : Fit (kBX a) := by
 by_cases h1 : kOn a = 1
 ·rw [(on_p h1).2.2.1]
  obtain ⟨⟨cp, cr, cf, _, _, ⟨ao, cap, so, sc, tO, tc, _, h⟩, _⟩, _⟩ := h
  exact pi_fit a.p.N a.p.xs a.p.S a.p.T h.f
 by_cases h2 : kOn a = 2
 ·rw [(on_r h2).2.2.1]
  exact kB_fit8 _
 by_cases h3 : kOn a = 3
 ·rw [(on_f h3).2.2.1]
  exact kB_fit9 _
 rw [(on_n h1 h2 h3).2.2.1]
 exact fit_nil
theorem v10check_k (cs : List Value) (a : RA) (w : World) (h : KI w cs a) :
  Calls Tryz.prog 22 #[.agg cs.toArray] w fun e w' => e = .returned (.bool (kOk a)) ∧ Below w.heap.size w w' :=
 v10check_g cs (Hid.mk8 h.arg.len) (kOk a) (kBN a) (kBX a) w h.fit (kB_chk a) (fun w0 hb => v10whole_k cs a w0 (h.keep hb))
theorem v10access_k (cs : List Value) (a : RA) (i : Int) (w : World) (h : KI w cs a) :
  Calls Tryz.prog 18 #[.agg cs.toArray, .int .i64 i] w fun e w' => e = .returned (.tuple #[.bool (gaB (kOk a) (kBN a) (kBX a) i), .int .i64 (gaE (kOk a) (kBN a) (kBX a) i)]) ∧ Below w.heap.size w w' :=
 v10access_g cs (Hid.mk8 h.arg.len) i (kOk a) (kBN a) (kBX a) w h.fit (kB_chk a) (fun w0 hb => v10whole_k cs a w0 (h.keep hb))
theorem v10rank_k (cs : List Value) (a : RA) (bit : Bool) (i : Int) (w : World) (h : KI w cs a) :
  Calls Tryz.prog 19 #[.agg cs.toArray, .bool bit, .int .i64 i] w fun e w' => e = .returned (.tuple #[.int .i64 (grN (kOk a) (kBN a) (kBX a) bit i), .int .i64 (grE (kOk a) (kBN a) i)]) ∧ Below w.heap.size w w' :=
 v10rank_g cs (Hid.mk8 h.arg.len) bit i (kOk a) (kBN a) (kBX a) w h.fit (kB_chk a) (fun w0 hb => v10whole_k cs a w0 (h.keep hb))
theorem v10select_k (cs : List Value) (a : RA) (bit : Bool) (k : Int) (w : World) (h : KI w cs a) :
  Calls Tryz.prog 20 #[.agg cs.toArray, .bool bit, .int .i64 k] w fun e w' => e = .returned (.tuple #[.int .i64 (gsX (kOk a) (kBN a) (kBX a) bit k), .int .i64 (gsE (kOk a) (kBN a) (kBX a) bit k)]) ∧ Below w.heap.size w w' :=
 v10select_g cs (Hid.mk8 h.arg.len) bit k (kOk a) (kBN a) (kBX a) w h.fit (kB_chk a) (fun w0 hb => v10whole_k cs a w0 (h.keep hb))
theorem v10bits_k (cs : List Value) (a : RA) (w : World) (h : KI w cs a) :
  Calls Tryz.prog 25 #[.agg cs.toArray] w fun e w' => ∃ bo bc, e = .returned (.agg #[.int .i64 (kBN a), .slice bo (kBX a).length bc]) ∧ Wd w' bo (kBX a) ∧ (kBX a).length ≤ bc ∧ Below w.heap.size w w' :=
 v10bits_g cs (Hid.mk8 h.arg.len) (kOk a) (kBN a) (kBX a) w h.fit (kB_chk a) (fun w0 hb => v10whole_k cs a w0 (h.keep hb))
theorem kZ_bad (a : RA) (h : kOk a = false) : kZ a = 0 := by
 by_cases h1 : kOn a = 1
 ·obtain ⟨e1, _, _, e4⟩ := on_p h1
  rw [e4]
  unfold kZ7 pzN
  rw [show pchk a.p.N a.p.xs a.p.S a.p.T = false from e1.symm.trans h]
  rfl
 by_cases h2 : kOn a = 2
 ·obtain ⟨e1, _, _, e4⟩ := on_r h2
  rw [e4]
  unfold kZ8 rzN
  rw [show rOk a.r.N a.r.k a.r.V a.r.M a.r.xs a.r.L a.r.ys a.r.S a.r.T = false from e1.symm.trans h]
  rfl
 by_cases h3 : kOn a = 3
 ·obtain ⟨e1, _, _, e4⟩ := on_f h3
  rw [e4]
  unfold kZ9
  rw [if_neg (by rw [← e1, h]; decide)]
 exact (on_n h1 h2 h3).2.2.2
theorem v10size_k (cs : List Value) (a : RA) (w : World) (h : KI w cs a) :
  Calls Tryz.prog 16 #[.agg cs.toArray] w fun e w' => e = .returned (.int .i64 (kZ a)) ∧ Below w.heap.size w w' := by
 have CH0 := fun (w0 : World) (hb : Below w.heap.size w w0) => v10check_k cs a w0 (h.keep hb)
 have HL := Hid.mk8 h.arg.len
 have sm := h.sm
 have gv := h.gv
 replace h := h.arg
 obtain ⟨cp, cr, cf, rfl, hK, h1, h2, h3⟩ := h
 have l4 := Hid.mk8 h1.four
 have l9 := Hid.mk8 h2.nine
 have LP := Hid.mk8 h1.len
 have LR := Hid.mk8 h2.len
 have LF := Hid.mk8 h3.len
 obtain ⟨K, p, r, f⟩ := a
 dsimp only at *
 have k7 : KI7 w cp p := ⟨h1, sm.p1, sm.p2, sm.p3⟩
 have k8 : KI8 w cr r := ⟨h2, sm.r1, sm.r2, sm.r3, sm.r4, gv⟩
 have k9 : KI9 w cf f := ⟨h3, sm.f0, sm.f1, sm.f2⟩
 have CH : Hid (∀ w0, Below w.heap.size w w0 → Calls Tryz.prog 22 #[.agg (Value.int .i64 K :: (cp ++ (cr ++ cf))).toArray] w0 fun e w' => e = .returned (.bool (kOk ⟨K, p, r, f⟩)) ∧ Below w0.heap.size w0 w') := CH0
 clear CH0 h1 h2 h3 sm gv
 have bw : Below w.heap.size w (w.alloc (.cells (Value.int .i64 K :: (cp ++ (cr ++ cf))).toArray 37)) := below_alloc w _
 have B0 : Cel (w.alloc (.cells (Value.int .i64 K :: (cp ++ (cr ++ cf))).toArray 37)) w.heap.size (Value.int .i64 K :: (cp ++ (cr ++ cf))) 37 := Cel.new w _ _
 cases hk : kOk ⟨K, p, r, f⟩ with
 | false =>
  rw [kZ_bad _ hk]
  rw [hk] at CH
  clear hk k7 k8 k9
  go_enter Tryz.func16, Tryz.ntmps16
  go_wp2_with (refine load_obj w.heap.size _ (by rfl) rfl B0 Tryz.underlying37 HL.out ?_)
  refine (CH.out _ bw).mono ?_
  rintro e w1 ⟨rfl, hb⟩
  replace B0 := B0.kept hb
  replace bw := bw.trans (hb.mono bw.size)
  clear hb
  obtain ⟨c0, p1, p2, p3⟩ := parts l4.out l9.out B0
  go_wp2
  go_ret
  exact ⟨rfl, bw⟩
 | true =>
  have o : kOn ⟨K, p, r, f⟩ = K ∧ (K = 1 ∨ K = 2 ∨ K = 3) := by
   have e : kOn ⟨K, p, r, f⟩ = K ∨ kOn ⟨K, p, r, f⟩ = 0 := by unfold kOn; split <;> simp
   by_cases o1 : kOn ⟨K, p, r, f⟩ = 1
   ·exact ⟨by omega, by omega⟩
   by_cases o2 : kOn ⟨K, p, r, f⟩ = 2
   ·exact ⟨by omega, by omega⟩
   by_cases o3 : kOn ⟨K, p, r, f⟩ = 3
   ·exact ⟨by omega, by omega⟩
   rw [(on_n o1 o2 o3).1] at hk
   cases hk
  rw [hk] at CH
  clear hk
  obtain ⟨o, q⟩ := o
  rcases q with rfl | rfl | rfl
  ·obtain ⟨e1, e2, e3, e4⟩ := on_p o
   rw [e4]
   have C : Hid (∀ w0, Below w.heap.size w w0 → Calls Tryz.prog 50 #[.agg cp.toArray] w0 fun e w' => e = .returned (.int .i64 (kZ7 p)) ∧ Below w0.heap.size w0 w') := fun w0 g => p7size_k cp p w0 (k7.keep g)
   clear e1 e2 e3 e4 k7 k8 k9 o
   generalize kZ7 p = Z at *
   go_enter Tryz.func16, Tryz.ntmps16
   go_wp2_with (refine load_obj w.heap.size _ (by rfl) rfl B0 Tryz.underlying37 HL.out ?_)
   refine (CH.out _ bw).mono ?_
   rintro e w1 ⟨rfl, hb⟩
   replace B0 := B0.kept hb
   replace bw := bw.trans (hb.mono bw.size)
   clear hb
   obtain ⟨c0, p1, p2, p3⟩ := parts l4.out l9.out B0
   go_wp2_with (refine load_part w.heap.size 1 cp (by rfl) rfl p1 Tryz.underlying29 LP.out ?_)
   refine (C.out _ bw).mono ?_
   rintro e w2 ⟨rfl, hb⟩
   replace bw := bw.trans (hb.mono bw.size)
   go_wp2
   go_ret
   exact ⟨rfl, bw⟩
  ·obtain ⟨e1, e2, e3, e4⟩ := on_r o
   rw [e4]
   have C : Hid (∀ w0, Below w.heap.size w w0 → Calls Tryz.prog 51 #[.agg cr.toArray] w0 fun e w' => e = .returned (.int .i64 (kZ8 r)) ∧ Below w0.heap.size w0 w') := fun w0 g => r8size_k cr r w0 (k8.keep g)
   clear e1 e2 e3 e4 k7 k8 k9 o
   generalize kZ8 r = Z at *
   go_enter Tryz.func16, Tryz.ntmps16
   go_wp2_with (refine load_obj w.heap.size _ (by rfl) rfl B0 Tryz.underlying37 HL.out ?_)
   refine (CH.out _ bw).mono ?_
   rintro e w1 ⟨rfl, hb⟩
   replace B0 := B0.kept hb
   replace bw := bw.trans (hb.mono bw.size)
   clear hb
   obtain ⟨c0, p1, p2, p3⟩ := parts l4.out l9.out B0
   go_wp2_with (refine load_part w.heap.size 5 cr (by rfl) rfl p2 Tryz.underlying33 LR.out ?_)
   refine (C.out _ bw).mono ?_
   rintro e w2 ⟨rfl, hb⟩
   replace bw := bw.trans (hb.mono bw.size)
   go_wp2
   go_ret
   exact ⟨rfl, bw⟩
  ·obtain ⟨e1, e2, e3, e4⟩ := on_f o
   rw [e4]
   have C : Hid (∀ w0, Below w.heap.size w w0 → Calls Tryz.prog 52 #[.agg cf.toArray] w0 fun e w' => e = .returned (.int .i64 (kZ9 f)) ∧ Below w0.heap.size w0 w') := fun w0 g => f9size_k cf f w0 (k9.keep g)
   clear e1 e2 e3 e4 k7 k8 k9 o
   generalize kZ9 f = Z at *
   go_enter Tryz.func16, Tryz.ntmps16
   go_wp2_with (refine load_obj w.heap.size _ (by rfl) rfl B0 Tryz.underlying37 HL.out ?_)
   refine (CH.out _ bw).mono ?_
   rintro e w1 ⟨rfl, hb⟩
   replace B0 := B0.kept hb
   replace bw := bw.trans (hb.mono bw.size)
   clear hb
   obtain ⟨c0, p1, p2, p3⟩ := parts l4.out l9.out B0
   go_wp2_with (refine load_part w.heap.size 14 cf (by rfl) rfl p3 Tryz.underlying35 LF.out ?_)
   refine (C.out _ bw).mono ?_
   rintro e w2 ⟨rfl, hb⟩
   replace bw := bw.trans (hb.mono bw.size)
   go_wp2
   go_ret
   exact ⟨rfl, bw⟩
end Go.Proofs.YtpeecabfcgijhaaGreatDoor
