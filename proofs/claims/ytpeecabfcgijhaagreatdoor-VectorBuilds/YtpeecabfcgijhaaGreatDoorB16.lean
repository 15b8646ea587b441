/-
  The contract of the program's count. The contracts of the program's sought and of the function that it hands to Search. The contracts of the program's Build, Bits, Size, Access, Rank and Select.
-/
import Derived.Test.YtpeecabfcgijhaaGreatDoorB14
import Derived.Test.YtpeecabfcgijhaaGreatDoorB15
import Derived.Test.YtpeecabfcgijhaaGreatDoorB01
set_option linter.unusedVariables false
set_option linter.unusedSimpArgs false
set_option maxRecDepth 100000
set_option maxHeartbeats 16000000
namespace Go.Proofs.YtpeecabfcgijhaaGreatDoor
open Go.RowKit Num Bit
def Caught (w : World) (g : Nat) (cs : List Value) (bit : Bool) (k : Nat) : Prop := Cel w g cs 29 ∧ Cel w (g + 1) [.bool bit] 4 ∧ Cel w (g + 2) [.int .i64 (k : Int)] 3
theorem Caught.kept {w w' : World} {g : Nat} {cs : List Value} {bit : Bool} {k : Nat} (h : Caught w g cs bit k) (hb : Below w.heap.size w w') : Caught w' g cs bit k := ⟨h.1.kept hb, h.2.1.kept hb, h.2.2.kept hb⟩
theorem pbuild_bad (N : Int) (ao : Option Addr) (xs : List Nat) (cap : Nat) (w : World) (hx : Wd w ao xs) (hk : chk N xs = false) :
  Calls Tryz.prog 28 #[.agg #[.int .i64 N, .slice ao xs.length cap]] w fun e w' => e = .returned (.tuple #[.agg #[.int .i64 0, .slice none 0 0, .slice none 0 0, .slice none 0 0], .int .i64 2]) ∧ Below w.heap.size w w' := by
 obtain ⟨W, hW⟩ : ∃ W, W = (w.alloc (.cells #[.int .i64 N, .slice ao xs.length cap] 24)).alloc (.cells #[.int .i64 0, .slice none 0 0, .slice none 0 0, .slice none 0 0] 29) := ⟨_, rfl⟩
 have bW := yb2 hW
 have B2 := yc2 hW
 have C1 : Hid (∀ w0, w0 = W → Calls Tryz.prog 64 #[.agg #[.int .i64 N, .slice ao xs.length cap]] w0 fun e w' => e = .returned (.bool false) ∧ Below w0.heap.size w0 w') := fun w0 h => by
  subst h
  have := check_c N ao xs cap w0 (hx.keep bW)
  rw [hk] at this
  exact this
 go_enter Tryz.func28, Tryz.ntmps28
 go_wp2_with fail
 rw [← hW]
 refine (C1.out _ rfl).mono ?_
 rintro e w1 ⟨rfl, hb⟩
 have bw1 := bW.trans (hb.mono bW.size)
 replace B2 := B2.kept hb
 clear hb C1 hW bW W
 have y0 := B2.cell 0 rfl
 have y1 := B2.cell 1 rfl
 have y2 := B2.cell 2 rfl
 have y3 := B2.cell 3 rfl
 have f0 := B2.frozen 0
 have f1 := B2.frozen 1
 have f2 := B2.frozen 2
 have f3 := B2.frozen 3
 have hC := (((B2.set 0 (.int .i64 0)).set 1 (.slice none 0 0)).set 2 (.slice none 0 0)).set 3 (.slice none 0 0)
 have HB := below_set (below_set (below_set (below_set bw1 (w.heap.size + 1) 0 (.int .i64 0) (Nat.le_succ _)) (w.heap.size + 1) 1 (.slice none 0 0) (Nat.le_succ _)) (w.heap.size + 1) 2 (.slice none 0 0) (Nat.le_succ _)) (w.heap.size + 1) 3 (.slice none 0 0) (Nat.le_succ _)
 have k0 := hC.cell 0 rfl
 have k1 := hC.cell 1 rfl
 have k2 := hC.cell 2 rfl
 have k3 := hC.cell 3 rfl
 go_wp2
 exact bodyPost_ret (v := .tuple #[.agg #[.int .i64 0, .slice none 0 0, .slice none 0 0, .slice none 0 0], .int .i64 2]) (by simp [results, Tryz.results28, go_sem, k0, k1, k2, k3]) rfl ⟨rfl, HB⟩
theorem build_p (N : Int) (ao : Option Addr) (xs : List Nat) (cap : Nat) (w : World) (hN : -9223372036854775808 ≤ N ∧ N ≤ 9223372036854775807) (hx : Wd w ao xs) (hf : Fit xs) (hcap : xs.length ≤ cap) (hl : xs.length ≤ 1048576) :
  Calls Tryz.prog 28 #[.agg #[.int .i64 N, .slice ao xs.length cap]] w fun e w' => ∃ bo bc so sc tO tc, e = .returned (.tuple #[.agg #[.int .i64 (pbN N xs), .slice bo (pbX N xs).length bc, .slice so (pbS N xs).length sc, .slice tO (pbT N xs).length tc], .int .i64 (pbE N xs)]) ∧ PlOut w.heap.size w' bo (pbX N xs) bc so (pbS N xs) sc tO (pbT N xs) tc ∧ Below w.heap.size w w' := by
 unfold pbN pbX pbS pbT pbE
 cases hk : chk N xs with
 | false =>
  refine (pbuild_bad N ao xs cap w hx hk).mono ?_
  rintro e w' ⟨rfl, hb⟩
  exact ⟨none, 0, none, 0, none, 0, rfl, ⟨wd0' _ _, Nat.le_refl _, nd0 _ _, Nat.le_refl _, nd0 _ _, Nat.le_refl _, fr0 _, fr0 _⟩, hb⟩
 | true =>
  obtain ⟨m, rfl, hm, hlen⟩ := chk_len N xs hk
  refine (pbuild_ok m ao xs cap w hx hf hcap hk hm hlen).mono ?_
  rintro e w' ⟨bo, bc, so, sc, tO, tc, rfl, h1, hb⟩
  exact ⟨bo, bc, so, sc, tO, tc, rfl, h1, hb⟩
theorem size_p (N : Int) (ao : Option Addr) (xs : List Nat) (cap : Nat) (so : Option Addr) (su : List Int) (sc : Nat) (tO : Option Addr) (sb : List Int) (tc : Nat) (w : World) (h : PlIn w N ao xs cap so su sc tO sb tc) :
  Calls Tryz.prog 47 #[.agg #[.int .i64 N, .slice ao xs.length cap, .slice so su.length sc, .slice tO sb.length tc]] w fun e w' => e = .returned (.int .i64 (pzN N xs su sb)) ∧ Below w.heap.size w w' := by
 unfold pzN
 obtain ⟨W, hW⟩ : ∃ W, W = w.alloc (.cells #[.int .i64 N, .slice ao xs.length cap, .slice so su.length sc, .slice tO sb.length tc] 29) := ⟨_, rfl⟩
 have bW := yb1 hW
 have B1 := yc1 hW
 have C1 : Hid (∀ w0, w0 = W → Calls Tryz.prog 58 #[.agg #[.int .i64 N, .slice ao xs.length cap, .slice so su.length sc, .slice tO sb.length tc]] w0 fun e w' => e = .returned (.bool (pchk N xs su sb)) ∧ Below w0.heap.size w0 w') := fun w0 e0 => by subst e0; exact check_p N ao xs cap so su sc tO sb tc w0 (h.keep bW)
 cases hk : pchk N xs su sb with
 | false =>
  simp only [Bool.false_eq_true, if_false]
  rw [hk] at C1
  go_enter Tryz.func47, Tryz.ntmps47
  go_wp2_with fail
  rw [← hW]
  refine (C1.out _ rfl).mono ?_
  rintro e w1 ⟨rfl, hb⟩
  have bw1 := bW.trans (hb.mono bW.size)
  replace B1 := B1.kept hb
  clear hb C1 hW bW W
  go_wp2
  go_ret
  exact ⟨rfl, bw1⟩
 | true =>
  simp only [if_true]
  rw [hk] at C1
  obtain ⟨m, rfl, hm, hl, z1, z2, z3⟩ := pchk_nat _ _ _ _ hk
  clear z1 z2 z3
  have l1 := h.sl
  have l2 := h.tl
  obtain ⟨A, hA⟩ : ∃ A, A = su.length := ⟨_, rfl⟩
  obtain ⟨B, hB⟩ : ∃ B, B = sb.length := ⟨_, rfl⟩
  rw [← hA] at l1 B1 ⊢
  rw [← hB] at l2 B1 ⊢
  rw [← hA, ← hB] at C1 hW
  clear h hl hk hA hB
  go_enter Tryz.func47, Tryz.ntmps47
  go_wp2_with fail
  rw [← hW]
  refine (C1.out _ rfl).mono ?_
  rintro e w1 ⟨rfl, hb⟩
  have bw1 := bW.trans (hb.mono bW.size)
  replace B1 := B1.kept hb
  clear hb C1 hW bW W
  have x0 := B1.cell 0 rfl
  have x2 := B1.cell 2 rfl
  have x3 := B1.cell 3 rfl
  go_wp2
  go_ret
  refine ⟨ret_int ?_, bw1⟩
  first | rfl | omega
end Go.Proofs.YtpeecabfcgijhaaGreatDoor
