/-
  The contracts of the document's none, nones and zero. The contracts of the document's functions of plain rows, over objects. The contract of the document's row of layer 9: the places that one tells. The document's row of layer 9: the places that one tells, where its rows may be. The contracts of the document's Same of rows of numbers, and of rows by places. The contract of the document's Whole of layer 9. The contracts of the document's Check, Bits, Access, Rank and Select, over that of its Whole. The contracts of the document's functions of layer 9, over rows by places as values. The contract of the document's Build of layer 9.
-/
import Derived.Test.YtfnkklkdajlhlaaGreatDoorL07
import Derived.Deep.DeepCutAuto
import Derived.Test.YtfnkklkdajlhlaaGreatDoorL16
import Derived.Test.YtfnkklkdajlhlaaGreatDoorL08
import Derived.Test.YtfnkklkdajlhlaaGreatDoorL02
import Derived.Test.YtfnkklkdajlhlaaGreatDoorL00
import Derived.Test.YtfnkklkdajlhlaaGreatDoorL04
import Derived.Test.YtfnkklkdajlhlaaGreatDoorL05
import Derived.Test.YtfnkklkdajlhlaaGreatDoorL01
set_option linter.unusedVariables false
set_option linter.unusedSimpArgs false
set_option maxRecDepth 100000
set_option maxHeartbeats 16000000
namespace Go.Proofs.YtfnkklkdajlhlaaGreatDoor
open Go.RowKit Num Bit
theorem norw1 (N : Int) (n : Nat) : norw [(N, n)] = (decide (N = 0) && decide ((n : Int) = 0)) := by simp [norw]
theorem norw2 (p q : Int × Nat) : norw [p, q] = (norw [p] && norw [q]) := by simp [norw]
theorem none_c (N : Int) (ao : Option Addr) (n cap : Nat) (w : World) :
  Calls Tryz.prog 105 #[.agg #[.int .i64 N, .slice ao n cap]] w fun e w' => e = .returned (.bool (norw [(N, n)])) ∧ Below w.heap.size w w' := by
 rw [norw1]
 by_cases q : N = 0
 ·subst q
  by_cases r : (n : Int) = 0
  ·have d : ((n : Int) == 0) = true := by simp only [r]; rfl
   rw [decide_eq_true r]
   go_enter Tryz.func105, Tryz.ntmps105
   go_wp2
   go_ret
   exact ⟨rfl, below_alloc _ _⟩
  ·have d : ((n : Int) == 0) = false := beq_eq_false_iff_ne.2 r
   rw [decide_eq_false r]
   go_enter Tryz.func105, Tryz.ntmps105
   go_wp2
   go_ret
   exact ⟨rfl, below_alloc _ _⟩
 ·have d : (N == 0) = false := beq_eq_false_iff_ne.2 q
  rw [decide_eq_false q]
  go_enter Tryz.func105, Tryz.ntmps105
  go_wp2
  go_ret
  exact ⟨rfl, below_alloc _ _⟩
def nons (k V M : Int) (n : Nat) : Bool := decide (k = 0) && (decide (V = 0) && norw [(M, n)])
theorem nones_c (k V M : Int) (ao : Option Addr) (n cap : Nat) (w : World) :
  Calls Tryz.prog 106 #[.agg #[.int .i64 k, .int .i64 V, .int .i64 M, .slice ao n cap]] w fun e w' => e = .returned (.bool (nons k V M n)) ∧ Below w.heap.size w w' := by
 unfold nons
 by_cases q : k = 0
 ·subst q
  by_cases r : V = 0
  ·subst r
   have C := none_c M ao n cap
   generalize norw [(M, n)] = R at *
   go_enter Tryz.func106, Tryz.ntmps106
   go_wp2_with fail
   refine (C _).mono ?_
   rintro e w1 ⟨rfl, hb⟩
   have bw := (below_alloc w _).trans (hb.mono (by simp))
   go_wp2
   go_ret
   exact ⟨by cases R <;> rfl, bw⟩
  ·have d : (V == 0) = false := beq_eq_false_iff_ne.2 r
   rw [decide_eq_false r]
   go_enter Tryz.func106, Tryz.ntmps106
   go_wp2
   go_ret
   exact ⟨rfl, below_alloc _ _⟩
 ·have d : (k == 0) = false := beq_eq_false_iff_ne.2 q
  rw [decide_eq_false q]
  go_enter Tryz.func106, Tryz.ntmps106
  go_wp2
  go_ret
  exact ⟨rfl, below_alloc _ _⟩
theorem zero_c (cs : List Value) (a : RA) (w : World) (h : KI w cs a) :
  Calls Tryz.prog 56 #[.agg cs.toArray] w fun e w' => e = .returned (.bool (kZs a)) ∧ Below w.heap.size w w' := by
 obtain ⟨⟨cp, cr, cf, rfl, hK, h1, h2, h3⟩, sm⟩ := h
 have s1 := sm.p2
 have s2 := sm.p3
 have s3 := sm.r3
 have s4 := sm.r4
 clear sm
 obtain ⟨K, ⟨N, xs, S, T⟩, ⟨N8, k8, V8, M8, x8, L8, y8, S8, T8⟩, ⟨N9, M9, k9, V9, L9, x9, H9, y9⟩⟩ := a
 dsimp only at *
 obtain ⟨ao, cap, so, sc, tO, tc, rfl, -⟩ := h1
 obtain ⟨a8, e8, q8, d8, s8, f8, t8, g8, rfl, -⟩ := h2
 obtain ⟨a9, e9, q9, d9, rfl, -⟩ := h3
 dsimp only at *
 obtain ⟨Z, hZ⟩ : ∃ Z, Hid (Z = kZs ⟨K, ⟨N, xs, S, T⟩, ⟨N8, k8, V8, M8, x8, L8, y8, S8, T8⟩, ⟨N9, M9, k9, V9, L9, x9, H9, y9⟩⟩) := ⟨_, rfl⟩
 obtain ⟨A, hA⟩ : ∃ A, Hid (A = z7 ⟨N, xs, S, T⟩) := ⟨_, rfl⟩
 obtain ⟨B, hB⟩ : ∃ B, Hid (B = z8 ⟨N8, k8, V8, M8, x8, L8, y8, S8, T8⟩) := ⟨_, rfl⟩
 obtain ⟨C, hC⟩ : ∃ C, Hid (C = z9 ⟨N9, M9, k9, V9, L9, x9, H9, y9⟩) := ⟨_, rfl⟩
 have hZ2 : Hid (Z = ((decide (K = 1) || A) && ((decide (K = 2) || B) && (decide (K = 3) || C)))) := by
  show Z = _
  rw [hZ.out, hA.out, hB.out, hC.out]
  rfl
 rw [← hZ.out]
 have EA : Hid (A = (norw [(N, xs.length)] && decide ((S.length : Int) + (T.length : Int) = 0))) := by
  show A = _
  rw [hA.out]
  unfold z7
  dsimp only
  congr 1
  rw [← Bool.decide_and]
  congr 1
  simp only [eq_iff_iff]
  omega
 have EB : Hid (B = (decide (N8 = 0) && (nons k8 V8 M8 x8.length && (norw [(L8, y8.length)] && decide ((S8.length : Int) + (T8.length : Int) = 0))))) := by
  show B = _
  rw [hB.out]
  unfold z8 nons
  dsimp only
  rw [norw2, show decide ((S8.length : Int) + (T8.length : Int) = 0) = (decide ((S8.length : Int) = 0) && decide ((T8.length : Int) = 0)) by rw [← Bool.decide_and]; congr 1; simp only [eq_iff_iff]; omega]
  simp only [Bool.and_assoc]
 have EC : Hid (C = (decide (N9 = 0) && (decide (M9 = 0) && (nons k9 V9 L9 x9.length && norw [(H9, y9.length)])))) := by
  show C = _
  rw [hC.out]
  unfold z9 nons
  dsimp only
  rw [norw2]
  simp only [Bool.and_assoc]
 clear hZ hA hB hC
 have wS : IntKind.i64.wrap ((S.length : Int) + (T.length : Int)) = (S.length : Int) + (T.length : Int) := by rw [IntKind.wrap_i64]; omega
 have wS8 : IntKind.i64.wrap ((S8.length : Int) + (T8.length : Int)) = (S8.length : Int) + (T8.length : Int) := by rw [IntKind.wrap_i64]; omega
 have N1 : Hid (∀ w0 : World, Calls Tryz.prog 105 #[.agg #[.int .i64 N, .slice ao xs.length cap]] w0 fun e w' => e = .returned (.bool (norw [(N, xs.length)])) ∧ Below w0.heap.size w0 w') := fun w0 => none_c N ao xs.length cap w0
 have N2 : Hid (∀ w0 : World, Calls Tryz.prog 106 #[.agg #[.int .i64 k8, .int .i64 V8, .int .i64 M8, .slice a8 x8.length e8]] w0 fun e w' => e = .returned (.bool (nons k8 V8 M8 x8.length)) ∧ Below w0.heap.size w0 w') := fun w0 => nones_c k8 V8 M8 a8 x8.length e8 w0
 have N3 : Hid (∀ w0 : World, Calls Tryz.prog 105 #[.agg #[.int .i64 L8, .slice q8 y8.length d8]] w0 fun e w' => e = .returned (.bool (norw [(L8, y8.length)])) ∧ Below w0.heap.size w0 w') := fun w0 => none_c L8 q8 y8.length d8 w0
 have N4 : Hid (∀ w0 : World, Calls Tryz.prog 106 #[.agg #[.int .i64 k9, .int .i64 V9, .int .i64 L9, .slice a9 x9.length e9]] w0 fun e w' => e = .returned (.bool (nons k9 V9 L9 x9.length)) ∧ Below w0.heap.size w0 w') := fun w0 => nones_c k9 V9 L9 a9 x9.length e9 w0
 have N5 : Hid (∀ w0 : World, Calls Tryz.prog 105 #[.agg #[.int .i64 H9, .slice q9 y9.length d9]] w0 fun e w' => e = .returned (.bool (norw [(H9, y9.length)])) ∧ Below w0.heap.size w0 w') := fun w0 => none_c H9 q9 y9.length d9 w0
 have B0 : Cel (w.alloc (.cells ([.int .i64 K, .int .i64 N, .slice ao xs.length cap, .slice so S.length sc, .slice tO T.length tc, .int .i64 N8, .int .i64 k8, .int .i64 V8, .int .i64 M8, .slice a8 x8.length e8, .int .i64 L8, .slice q8 y8.length d8, .slice s8 S8.length f8, .slice t8 T8.length g8, .int .i64 N9, .int .i64 M9, .int .i64 k9, .int .i64 V9, .int .i64 L9, .slice a9 x9.length e9, .int .i64 H9, .slice q9 y9.length d9] : List Value).toArray 45)) w.heap.size [.int .i64 K, .int .i64 N, .slice ao xs.length cap, .slice so S.length sc, .slice tO T.length tc, .int .i64 N8, .int .i64 k8, .int .i64 V8, .int .i64 M8, .slice a8 x8.length e8, .int .i64 L8, .slice q8 y8.length d8, .slice s8 S8.length f8, .slice t8 T8.length g8, .int .i64 N9, .int .i64 M9, .int .i64 k9, .int .i64 V9, .int .i64 L9, .slice a9 x9.length e9, .int .i64 H9, .slice q9 y9.length d9] 45 := Cel.new w _ _
 have bw : Below w.heap.size w (w.alloc (.cells ([.int .i64 K, .int .i64 N, .slice ao xs.length cap, .slice so S.length sc, .slice tO T.length tc, .int .i64 N8, .int .i64 k8, .int .i64 V8, .int .i64 M8, .slice a8 x8.length e8, .int .i64 L8, .slice q8 y8.length d8, .slice s8 S8.length f8, .slice t8 T8.length g8, .int .i64 N9, .int .i64 M9, .int .i64 k9, .int .i64 V9, .int .i64 L9, .slice a9 x9.length e9, .int .i64 H9, .slice q9 y9.length d9] : List Value).toArray 45)) := below_alloc w _
 generalize hsum : (S.length : Int) + (T.length : Int) = s7 at *
 generalize hsum8 : (S8.length : Int) + (T8.length : Int) = s78 at *
 go_enter Tryz.func56, Tryz.ntmps56
 go_upto_region 1 with fail
 go_cut [3] (fun s3 wx => s3 = .bool A ∧ Cel wx w.heap.size [.int .i64 K, .int .i64 N, .slice ao xs.length cap, .slice so S.length sc, .slice tO T.length tc, .int .i64 N8, .int .i64 k8, .int .i64 V8, .int .i64 M8, .slice a8 x8.length e8, .int .i64 L8, .slice q8 y8.length d8, .slice s8 S8.length f8, .slice t8 T8.length g8, .int .i64 N9, .int .i64 M9, .int .i64 k9, .int .i64 V9, .int .i64 L9, .slice a9 x9.length e9, .int .i64 H9, .slice q9 y9.length d9] 45 ∧ Below w.heap.size w wx)
 case first =>
  have c1 := B0.cell 1 rfl
  have c2 := B0.cell 2 rfl
  have c3 := B0.cell 3 rfl
  have c4 := B0.cell 4 rfl
  cases hn : norw [(N, xs.length)] with
  | false =>
   rw [hn] at N1
   go_wp2_with fail
   refine (N1.out _).mono ?_
   rintro e w1 ⟨rfl, hb⟩
   replace B0 := B0.kept hb
   replace bw := bw.trans (hb.mono bw.size)
   clear hb c1 c2 c3 c4
   have c1 := B0.cell 1 rfl
   have c2 := B0.cell 2 rfl
   have c3 := B0.cell 3 rfl
   have c4 := B0.cell 4 rfl
   go_wp2_with fail
   go_meet
   refine ⟨?_, B0, bw⟩
   rw [EA.out]
   simp [hn]
  | true =>
   rw [hn] at N1
   by_cases q : s7 = 0
   ·have d : (s7 == 0) = true := by simp [q]
    go_wp2_with fail
    refine (N1.out _).mono ?_
    rintro e w1 ⟨rfl, hb⟩
    replace B0 := B0.kept hb
    replace bw := bw.trans (hb.mono bw.size)
    clear hb c1 c2 c3 c4
    have c1 := B0.cell 1 rfl
    have c2 := B0.cell 2 rfl
    have c3 := B0.cell 3 rfl
    have c4 := B0.cell 4 rfl
    go_wp2_with fail
    go_meet
    refine ⟨?_, B0, bw⟩
    rw [EA.out]
    simp [hn, q]
   ·have d : (s7 == 0) = false := by simp [q]
    go_wp2_with fail
    refine (N1.out _).mono ?_
    rintro e w1 ⟨rfl, hb⟩
    replace B0 := B0.kept hb
    replace bw := bw.trans (hb.mono bw.size)
    clear hb c1 c2 c3 c4
    have c1 := B0.cell 1 rfl
    have c2 := B0.cell 2 rfl
    have c3 := B0.cell 3 rfl
    have c4 := B0.cell 4 rfl
    go_wp2_with fail
    go_meet
    refine ⟨?_, B0, bw⟩
    rw [EA.out]
    simp [hn, q]
 case rest =>
 obtain ⟨rfl, B1, bw1⟩ := hcut
 clear N1 EA B0 bw wS hsum
 have B0 := B1
 have bw := bw1
 clear B1 bw1
 go_upto_region 2 with fail
 go_cut [4] (fun s4 wx => s4 = .bool B ∧ Cel wx w.heap.size [.int .i64 K, .int .i64 N, .slice ao xs.length cap, .slice so S.length sc, .slice tO T.length tc, .int .i64 N8, .int .i64 k8, .int .i64 V8, .int .i64 M8, .slice a8 x8.length e8, .int .i64 L8, .slice q8 y8.length d8, .slice s8 S8.length f8, .slice t8 T8.length g8, .int .i64 N9, .int .i64 M9, .int .i64 k9, .int .i64 V9, .int .i64 L9, .slice a9 x9.length e9, .int .i64 H9, .slice q9 y9.length d9] 45 ∧ Below w.heap.size w wx)
 case first =>
  have c5 := B0.cell 5 rfl
  have c6 := B0.cell 6 rfl
  have c7 := B0.cell 7 rfl
  have c8 := B0.cell 8 rfl
  have c9 := B0.cell 9 rfl
  have c10 := B0.cell 10 rfl
  have c11 := B0.cell 11 rfl
  have c12 := B0.cell 12 rfl
  have c13 := B0.cell 13 rfl
  by_cases q : N8 = 0
  rotate_left
  ·have d : (N8 == 0) = false := by simp [q]
   go_wp2_with fail
   go_meet
   refine ⟨?_, B0, bw⟩
   rw [EB.out]
   simp [q]
  subst q
  cases hn : nons k8 V8 M8 x8.length with
  | false =>
   rw [hn] at N2
   go_wp2_with fail
   refine (N2.out _).mono ?_
   rintro e w1 ⟨rfl, hb⟩
   replace B0 := B0.kept hb
   replace bw := bw.trans (hb.mono bw.size)
   clear hb c5 c6 c7 c8 c9 c10 c11 c12 c13
   have c5 := B0.cell 5 rfl
   have c6 := B0.cell 6 rfl
   have c7 := B0.cell 7 rfl
   have c8 := B0.cell 8 rfl
   have c9 := B0.cell 9 rfl
   have c10 := B0.cell 10 rfl
   have c11 := B0.cell 11 rfl
   have c12 := B0.cell 12 rfl
   have c13 := B0.cell 13 rfl
   go_wp2_with fail
   go_meet
   refine ⟨?_, B0, bw⟩
   rw [EB.out]
   simp [hn]
  | true =>
   rw [hn] at N2
   cases hm : norw [(L8, y8.length)] with
   | false =>
    rw [hm] at N3
    go_wp2_with fail
    refine (N2.out _).mono ?_
    rintro e w1 ⟨rfl, hb⟩
    replace B0 := B0.kept hb
    replace bw := bw.trans (hb.mono bw.size)
    clear hb c5 c6 c7 c8 c9 c10 c11 c12 c13
    have c5 := B0.cell 5 rfl
    have c6 := B0.cell 6 rfl
    have c7 := B0.cell 7 rfl
    have c8 := B0.cell 8 rfl
    have c9 := B0.cell 9 rfl
    have c10 := B0.cell 10 rfl
    have c11 := B0.cell 11 rfl
    have c12 := B0.cell 12 rfl
    have c13 := B0.cell 13 rfl
    go_wp2_with fail
    refine (N3.out _).mono ?_
    rintro e w2 ⟨rfl, hb⟩
    replace B0 := B0.kept hb
    replace bw := bw.trans (hb.mono bw.size)
    clear hb c5 c6 c7 c8 c9 c10 c11 c12 c13
    have c5 := B0.cell 5 rfl
    have c6 := B0.cell 6 rfl
    have c7 := B0.cell 7 rfl
    have c8 := B0.cell 8 rfl
    have c9 := B0.cell 9 rfl
    have c10 := B0.cell 10 rfl
    have c11 := B0.cell 11 rfl
    have c12 := B0.cell 12 rfl
    have c13 := B0.cell 13 rfl
    go_wp2_with fail
    go_meet
    refine ⟨?_, B0, bw⟩
    rw [EB.out]
    simp [hn, hm]
   | true =>
    rw [hm] at N3
    by_cases q : s78 = 0
    ·have d : (s78 == 0) = true := by simp [q]
     go_wp2_with fail
     refine (N2.out _).mono ?_
     rintro e w1 ⟨rfl, hb⟩
     replace B0 := B0.kept hb
     replace bw := bw.trans (hb.mono bw.size)
     clear hb c5 c6 c7 c8 c9 c10 c11 c12 c13
     have c5 := B0.cell 5 rfl
     have c6 := B0.cell 6 rfl
     have c7 := B0.cell 7 rfl
     have c8 := B0.cell 8 rfl
     have c9 := B0.cell 9 rfl
     have c10 := B0.cell 10 rfl
     have c11 := B0.cell 11 rfl
     have c12 := B0.cell 12 rfl
     have c13 := B0.cell 13 rfl
     go_wp2_with fail
     refine (N3.out _).mono ?_
     rintro e w2 ⟨rfl, hb⟩
     replace B0 := B0.kept hb
     replace bw := bw.trans (hb.mono bw.size)
     clear hb c5 c6 c7 c8 c9 c10 c11 c12 c13
     have c5 := B0.cell 5 rfl
     have c6 := B0.cell 6 rfl
     have c7 := B0.cell 7 rfl
     have c8 := B0.cell 8 rfl
     have c9 := B0.cell 9 rfl
     have c10 := B0.cell 10 rfl
     have c11 := B0.cell 11 rfl
     have c12 := B0.cell 12 rfl
     have c13 := B0.cell 13 rfl
     go_wp2_with fail
     go_meet
     refine ⟨?_, B0, bw⟩
     rw [EB.out]
     simp [hn, hm, q]
    ·have d : (s78 == 0) = false := by simp [q]
     go_wp2_with fail
     refine (N2.out _).mono ?_
     rintro e w1 ⟨rfl, hb⟩
     replace B0 := B0.kept hb
     replace bw := bw.trans (hb.mono bw.size)
     clear hb c5 c6 c7 c8 c9 c10 c11 c12 c13
     have c5 := B0.cell 5 rfl
     have c6 := B0.cell 6 rfl
     have c7 := B0.cell 7 rfl
     have c8 := B0.cell 8 rfl
     have c9 := B0.cell 9 rfl
     have c10 := B0.cell 10 rfl
     have c11 := B0.cell 11 rfl
     have c12 := B0.cell 12 rfl
     have c13 := B0.cell 13 rfl
     go_wp2_with fail
     refine (N3.out _).mono ?_
     rintro e w2 ⟨rfl, hb⟩
     replace B0 := B0.kept hb
     replace bw := bw.trans (hb.mono bw.size)
     clear hb c5 c6 c7 c8 c9 c10 c11 c12 c13
     have c5 := B0.cell 5 rfl
     have c6 := B0.cell 6 rfl
     have c7 := B0.cell 7 rfl
     have c8 := B0.cell 8 rfl
     have c9 := B0.cell 9 rfl
     have c10 := B0.cell 10 rfl
     have c11 := B0.cell 11 rfl
     have c12 := B0.cell 12 rfl
     have c13 := B0.cell 13 rfl
     go_wp2_with fail
     go_meet
     refine ⟨?_, B0, bw⟩
     rw [EB.out]
     simp [hn, hm, q]
 case rest =>
 obtain ⟨rfl, B1, bw1⟩ := hcut
 clear N2 N3 EB B0 bw wS8 hsum8
 have B0 := B1
 have bw := bw1
 clear B1 bw1
 go_upto_region 3 with fail
 go_cut [5] (fun s5 wx => s5 = .bool C ∧ Cel wx w.heap.size [.int .i64 K, .int .i64 N, .slice ao xs.length cap, .slice so S.length sc, .slice tO T.length tc, .int .i64 N8, .int .i64 k8, .int .i64 V8, .int .i64 M8, .slice a8 x8.length e8, .int .i64 L8, .slice q8 y8.length d8, .slice s8 S8.length f8, .slice t8 T8.length g8, .int .i64 N9, .int .i64 M9, .int .i64 k9, .int .i64 V9, .int .i64 L9, .slice a9 x9.length e9, .int .i64 H9, .slice q9 y9.length d9] 45 ∧ Below w.heap.size w wx)
 case first =>
  have c14 := B0.cell 14 rfl
  have c15 := B0.cell 15 rfl
  have c16 := B0.cell 16 rfl
  have c17 := B0.cell 17 rfl
  have c18 := B0.cell 18 rfl
  have c19 := B0.cell 19 rfl
  have c20 := B0.cell 20 rfl
  have c21 := B0.cell 21 rfl
  by_cases q : N9 = 0
  rotate_left
  ·have d : (N9 == 0) = false := by simp [q]
   go_wp2_with fail
   go_meet
   refine ⟨?_, B0, bw⟩
   rw [EC.out]
   simp [q]
  subst q
  by_cases q : M9 = 0
  rotate_left
  ·have d : (M9 == 0) = false := by simp [q]
   go_wp2_with fail
   go_meet
   refine ⟨?_, B0, bw⟩
   rw [EC.out]
   simp [q]
  subst q
  cases hn : nons k9 V9 L9 x9.length with
  | false =>
   rw [hn] at N4
   go_wp2_with fail
   refine (N4.out _).mono ?_
   rintro e w1 ⟨rfl, hb⟩
   replace B0 := B0.kept hb
   replace bw := bw.trans (hb.mono bw.size)
   clear hb c14 c15 c16 c17 c18 c19 c20 c21
   have c14 := B0.cell 14 rfl
   have c15 := B0.cell 15 rfl
   have c16 := B0.cell 16 rfl
   have c17 := B0.cell 17 rfl
   have c18 := B0.cell 18 rfl
   have c19 := B0.cell 19 rfl
   have c20 := B0.cell 20 rfl
   have c21 := B0.cell 21 rfl
   go_wp2_with fail
   go_meet
   refine ⟨?_, B0, bw⟩
   rw [EC.out]
   simp [hn]
  | true =>
   rw [hn] at N4
   go_wp2_with fail
   refine (N4.out _).mono ?_
   rintro e w1 ⟨rfl, hb⟩
   replace B0 := B0.kept hb
   replace bw := bw.trans (hb.mono bw.size)
   clear hb c14 c15 c16 c17 c18 c19 c20 c21
   have c14 := B0.cell 14 rfl
   have c15 := B0.cell 15 rfl
   have c16 := B0.cell 16 rfl
   have c17 := B0.cell 17 rfl
   have c18 := B0.cell 18 rfl
   have c19 := B0.cell 19 rfl
   have c20 := B0.cell 20 rfl
   have c21 := B0.cell 21 rfl
   go_wp2_with fail
   refine (N5.out _).mono ?_
   rintro e w2 ⟨rfl, hb⟩
   replace B0 := B0.kept hb
   replace bw := bw.trans (hb.mono bw.size)
   clear hb c14 c15 c16 c17 c18 c19 c20 c21
   have c14 := B0.cell 14 rfl
   have c15 := B0.cell 15 rfl
   have c16 := B0.cell 16 rfl
   have c17 := B0.cell 17 rfl
   have c18 := B0.cell 18 rfl
   have c19 := B0.cell 19 rfl
   have c20 := B0.cell 20 rfl
   have c21 := B0.cell 21 rfl
   generalize norw [(H9, y9.length)] = R at *
   go_wp2_with fail
   go_meet
   refine ⟨?_, B0, bw⟩
   rw [EC.out]
   simp [hn]
 case rest =>
 obtain ⟨rfl, B1, bw1⟩ := hcut
 clear N4 N5 EC B0 bw
 have c0 := B1.cell 0 rfl
 by_cases q1 : K = 1
 ·subst q1
  cases A <;> cases B <;> cases C <;> (go_wp2; go_ret; rw [hZ2.out]; exact ⟨rfl, bw1⟩)
 by_cases q2 : K = 2
 ·subst q2
  cases A <;> cases B <;> cases C <;> (go_wp2; go_ret; rw [hZ2.out]; exact ⟨rfl, bw1⟩)
 by_cases q3 : K = 3
 ·subst q3
  cases A <;> cases B <;> cases C <;> (go_wp2; go_ret; rw [hZ2.out]; exact ⟨rfl, bw1⟩)
 have d1 : (K == 1) = false := by simp [q1]
 have d2 : (K == 2) = false := by simp [q2]
 have d3 : (K == 3) = false := by simp [q3]
 rw [decide_eq_false q1, decide_eq_false q2, decide_eq_false q3] at hZ2
 cases A <;> cases B <;> cases C <;> (go_wp2; go_ret; rw [hZ2.out]; exact ⟨rfl, bw1⟩)
theorem p7whole_k (cs : List Value) (a : RA7) (w : World) (h : KI7 w cs a) :
  Calls Tryz.prog 57 #[.agg cs.toArray] w fun e w' => ∃ bo bc, e = .returned (.tuple #[.agg #[.int .i64 (kBN7 a), .slice bo (kBX7 a).length bc], .bool (kOk7 a)]) ∧ Wd w' bo (kBX7 a) ∧ (kBX7 a).length ≤ bc ∧ Below w.heap.size w w' := by
 obtain ⟨⟨ao, cap, so, sc, tO, tc, rfl, h⟩, xl, sl, tl⟩ := h
 refine (rwhole_c a.N ao a.xs cap so a.S sc tO a.T tc w h.x h.f h.c h.s sl h.t tl).mono ?_
 rintro e w' ⟨rfl, hb⟩
 exact ⟨_, _, rfl, (pi_wd a.N a.S a.T h.x).keep hb, pi_cap a.N a.xs a.S a.T cap h.c, hb⟩
def ROut (o : Option (List Nat)) (w : World) (e : Ending) (w' : World) : Prop :=
 match o with
 | none => e = .returned (.tuple #[.slice none 0 0, .bool false]) ∧ Below w.heap.size w w'
 | some l => ∃ so sc, e = .returned (.tuple #[.slice so l.length sc, .bool true]) ∧ Nd w' so (lz l) ∧ l.length ≤ sc ∧ Below w.heap.size w w'
theorem fRow_bad (a : FA) (h : ¬ ((0 ≤ a.N ∧ a.N ≤ 1048576 ∧ 0 ≤ a.M ∧ a.M ≤ a.N) ∧ ichk a.k a.V a.LM a.xs = true ∧ chk a.H a.ys = true ∧ ((plc (bitAt a.ys) a.H.toNat).length : Int) = a.M ∧ (wdF a.N.toNat a.M.toNat = 0 ∨ (((List.range a.k.toNat).map (numAt a.V.toNat a.xs)).length : Int) = a.M))) : fRow a = none := by
 unfold fRow
 exact if_neg h
theorem row9_bad (N M k V LM H : Int) (ao : Option Addr) (xs : List Nat) (cap : Nat) (qo : Option Addr) (ys : List Nat) (dap : Nat) (w : World) (hx : Wd w ao xs) (fx : Fit xs) (hy : Wd w qo ys) (fy : Fit ys) (h : ¬ ((0 ≤ N ∧ N ≤ 1048576 ∧ 0 ≤ M ∧ M ≤ N) ∧ ichk k V LM xs = true ∧ chk H ys = true)) :
  Calls Tryz.prog 111 #[.agg #[.int .i64 N, .int .i64 M, .int .i64 k, .int .i64 V, .int .i64 LM, .slice ao xs.length cap, .int .i64 H, .slice qo ys.length dap]] w (ROut none w) := by
 unfold ROut
 have C1 : Hid (∀ w0, Below w.heap.size w w0 → Calls Tryz.prog 108 #[.agg #[.int .i64 k, .int .i64 V, .int .i64 LM, .slice ao xs.length cap]] w0 fun e w' => e = .returned (.bool (ichk k V LM xs)) ∧ Below w0.heap.size w0 w') := fun w0 hb => irefcheck_c k V LM ao xs cap w0 (hx.keep hb) fx
 have C2 : Hid (∀ w0, Below w.heap.size w w0 → Calls Tryz.prog 30 #[.agg #[.int .i64 H, .slice qo ys.length dap]] w0 fun e w' => e = .returned (.bool (chk H ys)) ∧ Below w0.heap.size w0 w') := fun w0 hb => refcheck_c H qo ys dap w0 (hy.keep hb) fy
 obtain ⟨W, hW⟩ : ∃ W, W = w.alloc (.cells #[.int .i64 N, .int .i64 M, .int .i64 k, .int .i64 V, .int .i64 LM, .slice ao xs.length cap, .int .i64 H, .slice qo ys.length dap] 43) := ⟨_, rfl⟩
 have bW := yb1 hW
 have B1 := yc1 hW
 clear hx hy fx fy
 by_cases n0 : N < 0
 ·clear C1 C2 h
  go_enter Tryz.func111, Tryz.ntmps111
  go_wp2
  go_ret2
  rw [← hW]
  exact ⟨rfl, bW⟩
 by_cases n1 : 1048576 < N
 ·clear C1 C2 h
  go_enter Tryz.func111, Tryz.ntmps111
  go_wp2
  go_ret2
  rw [← hW]
  exact ⟨rfl, bW⟩
 by_cases m0 : M < 0
 ·clear C1 C2 h
  go_enter Tryz.func111, Tryz.ntmps111
  go_wp2
  go_ret2
  rw [← hW]
  exact ⟨rfl, bW⟩
 by_cases m1 : N < M
 ·clear C1 C2 h
  go_enter Tryz.func111, Tryz.ntmps111
  go_wp2
  go_ret2
  rw [← hW]
  exact ⟨rfl, bW⟩
 cases hk : ichk k V LM xs with
 | false =>
  rw [hk] at C1
  clear C2 h hk
  go_enter Tryz.func111, Tryz.ntmps111
  go_wp2_with fail
  rw [← hW]
  refine (C1.out _ bW).mono ?_
  rintro e w1 ⟨rfl, hb⟩
  have bw1 := bW.trans (hb.mono bW.size)
  clear hW hb
  go_wp2
  go_ret2
  exact ⟨rfl, bw1⟩
 | true =>
  have hc : chk H ys = false := by
   cases hc : chk H ys with
   | false => rfl
   | true => exact absurd ⟨by omega, hk, hc⟩ h
  rw [hk] at C1
  rw [hc] at C2
  clear h hk hc
  go_enter Tryz.func111, Tryz.ntmps111
  go_wp2_with fail
  rw [← hW]
  refine (C1.out _ bW).mono ?_
  rintro e w1 ⟨rfl, hb⟩
  have bw1 := bW.trans (hb.mono bW.size)
  replace B1 := B1.kept hb
  have q6 := B1.cell 6 rfl
  have q7 := B1.cell 7 rfl
  clear hW hb
  go_wp2_with fail
  refine (C2.out _ bw1).mono ?_
  rintro e w2 ⟨rfl, hb⟩
  have bw2 := bw1.trans (hb.mono bw1.size)
  clear hb
  go_wp2
  go_ret2
  exact ⟨rfl, bw2⟩
theorem hide9 {p : Prop} (h : p) : Hid p := h
theorem sum9 (DD y p : Nat) (h : p = DD + y) : (DD : Int) + (y : Int) = (p : Int) := by omega
theorem le9 (DD y p : Nat) (h : p = DD + y) (h1 : DD ≤ 1099511627776) (h2 : y < 1048576) : p ≤ 1099512676352 := by omega
theorem row9_main (n mm kn vn hh : Nat) (LM : Int) (ao : Option Addr) (xs : List Nat) (cap : Nat) (qo : Option Addr) (ys : List Nat) (dap : Nat) (w : World) (hx : Wd w ao xs) (fx : Fit xs) (hy : Wd w qo ys) (fy : Fit ys) (hn : n ≤ 1048576) (hmn : mm ≤ n) (ik : ichk (kn : Int) (vn : Int) LM xs = true) (ck : chk (hh : Int) ys = true) :
  Calls Tryz.prog 111 #[.agg #[.int .i64 (n : Nat), .int .i64 (mm : Nat), .int .i64 (kn : Nat), .int .i64 (vn : Nat), .int .i64 LM, .slice ao xs.length cap, .int .i64 (hh : Nat), .slice qo ys.length dap]] w (ROut (fRow ⟨n, mm, kn, vn, LM, xs, hh, ys⟩) w) := by
 obtain ⟨i3, hi3, za3, zb3, zc3⟩ := info_parts info3_9
 obtain ⟨_, _, _, _, _, _, lm1, knl⟩ := ichk_out _ _ _ _ ik
 obtain ⟨_, hhl, _, _⟩ := chk_out _ _ ck
 have C1 : Hid (∀ w0, Below w.heap.size w w0 → Calls Tryz.prog 108 #[.agg #[.int .i64 (kn : Nat), .int .i64 (vn : Nat), .int .i64 LM, .slice ao xs.length cap]] w0 fun e w' => e = .returned (.bool true) ∧ Below w0.heap.size w0 w') := fun w0 hb => by
  have := irefcheck_c kn vn LM ao xs cap w0 (hx.keep hb) fx
  rw [ik] at this
  exact this
 have C2 : Hid (∀ w0, Below w.heap.size w w0 → Calls Tryz.prog 30 #[.agg #[.int .i64 (hh : Nat), .slice qo ys.length dap]] w0 fun e w' => e = .returned (.bool true) ∧ Below w0.heap.size w0 w') := fun w0 hb => by
  have := refcheck_c hh qo ys dap w0 (hy.keep hb) fy
  rw [ck] at this
  exact this
 have C3 : Hid (∀ w0, Calls Tryz.prog 172 #[.int .i64 (n : Nat), .int .i64 (mm : Nat)] w0 fun e w' => e = .returned (.int .i64 (wdF n mm : Nat)) ∧ Below w0.heap.size w0 w') := fun w0 => f9width_c n mm hn hmn w0
 have C4 : Hid (∀ w0, Below w.heap.size w w0 → Calls Tryz.prog 166 #[.agg #[.int .i64 (kn : Nat), .int .i64 (vn : Nat), .int .i64 LM, .slice ao xs.length cap]] w0 fun e w' => ∃ lo' lc, e = .returned (.slice lo' kn lc) ∧ Wd w' lo' ((List.range kn).map (numAt vn xs)) ∧ Below w0.heap.size w0 w') := fun w0 hb => by
  refine (reflist_ok LM kn vn ao xs cap w0 (hx.keep hb) fx ik).mono ?_
  rintro e w' ⟨v, rfl, ho, hb2⟩
  obtain ⟨lo', lc, rfl, _, _⟩ := Ap.owns_shape ho
  exact ⟨lo', lc, rfl, wd_own9 ho, hb2⟩
 have C5 : Hid (∀ w0, Below w.heap.size w w0 → Calls Tryz.prog 128 #[.agg #[.int .i64 (hh : Nat), .slice qo ys.length dap]] w0 fun e w' => ∃ ho' hc, e = .returned (.slice ho' (plc (bitAt ys) hh).length hc) ∧ Nd w' ho' (lz (plc (bitAt ys) hh)) ∧ Below w0.heap.size w0 w') := fun w0 hb => by
  refine (places_c hh qo ys dap w0 (hy.keep hb) ck).mono ?_
  rintro e w' ⟨v, rfl, ho, hb2⟩
  obtain ⟨ho', hc, rfl, _, _⟩ := Ap.owns_shape ho
  exact ⟨ho', hc, rfl, nd_own9 ho, hb2⟩
 have HR : Hid (fRow ⟨n, mm, kn, vn, LM, xs, hh, ys⟩ = if ((plc (bitAt ys) hh).length = mm) ∧ (wdF n mm = 0 ∨ kn = mm) then fdec n (wdF n mm) ((List.range kn).map (numAt vn xs)) (plc (bitAt ys) hh) (plc (bitAt ys) hh).length else none) := by
  show fRow _ = _
  unfold fRow
  simp only [Int.toNat_natCast, List.length_map, List.length_range]
  by_cases c : (plc (bitAt ys) hh).length = mm ∧ (wdF n mm = 0 ∨ kn = mm)
  ·rw [if_pos c, if_pos ⟨⟨by omega, by omega, by omega, by omega⟩, ik, ck, by omega, by omega⟩]
  ·rw [if_neg c, if_neg (fun h => c ⟨by omega, by omega⟩)]
 have RS := plc_rise (bitAt ys) hh
 have w20 : wdF n mm ≤ 20 := wdF_le n mm (by omega)
 have fL : Fit ((List.range kn).map (numAt vn xs)) := by
  obtain ⟨_, v64, _⟩ := ichk_out _ _ _ _ ik
  exact fit_map _ _ fun i => numAt_lt vn (by omega) xs i
 have lL : ((List.range kn).map (numAt vn xs)).length = kn := by simp
 rw [HR.out]
 obtain ⟨OO, hOO⟩ : ∃ OO, Hid (OO = if ((plc (bitAt ys) hh).length = mm) ∧ (wdF n mm = 0 ∨ kn = mm) then fdec n (wdF n mm) ((List.range kn).map (numAt vn xs)) (plc (bitAt ys) hh) (plc (bitAt ys) hh).length else none) := ⟨_, rfl⟩
 rw [← hOO.out]
 obtain ⟨W, hW⟩ : ∃ W, W = w.alloc (.cells #[.int .i64 (n : Nat), .int .i64 (mm : Nat), .int .i64 (kn : Nat), .int .i64 (vn : Nat), .int .i64 LM, .slice ao xs.length cap, .int .i64 (hh : Nat), .slice qo ys.length dap] 43) := ⟨_, rfl⟩
 have bW := yb1 hW
 have B1 := yc1 hW
 have i1 : ¬ (n : Int) < 0 := by omega
 have i2 : ¬ (1048576 : Int) < (n : Int) := by omega
 have i4 : ¬ (mm : Int) < 0 := by omega
 have i5 : ¬ (n : Int) < (mm : Int) := by omega
 clear hx hy fx fy ik ck HR
 generalize (List.range kn).map (numAt vn xs) = lo at *
 generalize plc (bitAt ys) hh = hi at *
 generalize wdF n mm = v at *
 go_enter Tryz.func111, Tryz.ntmps111
 go_wp2_with fail
 rw [← hW]
 refine (C1.out _ bW).mono ?_
 rintro e w1 ⟨rfl, hb⟩
 have bw1 := bW.trans (hb.mono bW.size)
 replace B1 := B1.kept hb
 have q0 := B1.cell 0 rfl
 have q1 := B1.cell 1 rfl
 have q2 := B1.cell 2 rfl
 have q3 := B1.cell 3 rfl
 have q4 := B1.cell 4 rfl
 have q5 := B1.cell 5 rfl
 have q6 := B1.cell 6 rfl
 have q7 := B1.cell 7 rfl
 clear hb hW bW C1
 go_wp2_with fail
 refine (C2.out _ bw1).mono ?_
 rintro e w2 ⟨rfl, hb⟩
 have bw2 := bw1.trans (hb.mono bw1.size)
 replace B1 := B1.kept hb
 clear hb bw1 C2 q0 q1 q2 q3 q4 q5 q6 q7
 have q0 := B1.cell 0 rfl
 have q1 := B1.cell 1 rfl
 have q2 := B1.cell 2 rfl
 have q3 := B1.cell 3 rfl
 have q4 := B1.cell 4 rfl
 have q5 := B1.cell 5 rfl
 have q6 := B1.cell 6 rfl
 have q7 := B1.cell 7 rfl
 go_wp2_with fail
 refine (C3.out _).mono ?_
 rintro e w3 ⟨rfl, hb⟩
 have bw3 := bw2.trans (hb.mono bw2.size)
 replace B1 := B1.kept hb
 clear hb bw2 C3 q0 q1 q2 q3 q4 q5 q6 q7
 have q0 := B1.cell 0 rfl
 have q1 := B1.cell 1 rfl
 have q2 := B1.cell 2 rfl
 have q3 := B1.cell 3 rfl
 have q4 := B1.cell 4 rfl
 have q5 := B1.cell 5 rfl
 have q6 := B1.cell 6 rfl
 have q7 := B1.cell 7 rfl
 go_wp2_with fail
 refine (C4.out _ bw3).mono ?_
 rintro e w4 ⟨lo', lc, rfl, hLo, hb⟩
 have bw4 := bw3.trans (hb.mono bw3.size)
 replace B1 := B1.kept hb
 clear hb bw3 C4 q0 q1 q2 q3 q4 q5 q6 q7
 have q0 := B1.cell 0 rfl
 have q1 := B1.cell 1 rfl
 have q2 := B1.cell 2 rfl
 have q3 := B1.cell 3 rfl
 have q4 := B1.cell 4 rfl
 have q5 := B1.cell 5 rfl
 have q6 := B1.cell 6 rfl
 have q7 := B1.cell 7 rfl
 go_wp2_with fail
 refine (C5.out _ bw4).mono ?_
 rintro e w5 ⟨ho', hc, rfl, hHi, hb⟩
 have bw5 := bw4.trans (hb.mono bw4.size)
 replace B1 := B1.kept hb
 replace hLo := hLo.keep hb
 clear hb bw4 C5 q0 q1 q2 q3 q4 q5 q6 q7
 have q1 := B1.cell 1 rfl
 by_cases e1 : hi.length = mm
 ·have e12 : ((hi.length : Int) != (mm : Int)) = false := by simp [e1]
  by_cases e2 : v = 0 ∨ kn = mm
  ·have HO : Hid (OO = fdec n v lo hi hi.length) := by
    show OO = _
    rw [hOO.out, if_pos ⟨e1, e2⟩]
   clear hOO
   have z5 := bw5.size
   subst e1
   have vv : (v : Int) < 64 := by omega
   by_cases hv0 : v = 0
   ·have nv1 : ¬ (0 : Int) < (v : Int) := by omega
    have PV : Hid (∀ q, fpl v lo hi q = gt hi q - q) := fun q => by unfold fpl; rw [hv0]; simp
    go_wp2
    go_loopw [7, 8] (fun t i wr => ∃ (q : Nat) (out : List Nat) (so : Option Addr) (sc : Nat), q ≤ hi.length ∧ i = .int .i64 q ∧ t = .slice so q sc ∧ q ≤ sc ∧ Hid (fdec n v lo hi q = some out) ∧ wr.ownsRow w5.heap.size 3 1 (.slice so q sc) q (lv out) ∧ Below w5.heap.size w5 wr) (fun _ i _ => hi.length - (intOf i).toNat)
    case atStart => exact ⟨0, [], none, 0, Nat.zero_le _, rfl, rfl, Nat.le_refl _, rfl, World.ownsRow_nil _ _ _ _, Below.refl _ _⟩
    case round =>
     obtain ⟨q, out, so, sc, hq, rfl, rfl, hsc, HD, hown, hwr⟩ := hrel
     obtain ⟨lo_, hrise⟩ := fdec_len n v lo hi q out HD.out
     by_cases hlt : q < hi.length
     ·have hlt2 : (q : Int) < (hi.length : Int) := by omega
      obtain ⟨b, off, rfl, hbl, hcel⟩ := hHi (by rw [length_lz]; omega)
      have cq := (hwr.cell (p := ⟨b, off + q, none⟩) hbl).trans (hcel q (by rw [length_lz]; exact hlt))
      rw [gi_lz] at cq
      have hge := RS.step q 0 (by omega)
      rw [Nat.zero_add] at hge
      have hll := RS.1 q hlt
      obtain ⟨d, hd⟩ : ∃ d, Hid (d = gt hi q - q) := ⟨_, rfl⟩
      have hd2 : (gt hi q : Int) - (q : Int) = (d : Int) := by rw [hd.out]; omega
      have dl : d ≤ 1048576 := by rw [hd.out]; omega
      have n0 := (B1.kept hwr).cell 0 rfl
      have PQ := PV.out q
      obtain ⟨p, hp⟩ : ∃ p, Hid (p = fpl v lo hi q) := ⟨_, rfl⟩
      have hpd : p = d := by rw [hp.out, PQ, hd.out]
      have FS : Hid (fdec n v lo hi (q + 1) = if n ≤ p ∨ (0 < q ∧ p ≤ gt out (q - 1)) then none else some (out ++ [p])) := by
       show fdec n v lo hi (q + 1) = _
       rw [fdec, HD.out, hp.out]
      have FN : Hid (fdec n v lo hi (q + 1) = none → OO = none) := fun h => by
       rw [HO.out]
       have := fdec_none n v lo hi (q + 1) h (hi.length - (q + 1))
       rwa [show q + 1 + (hi.length - (q + 1)) = hi.length by omega] at this
      have bwr := bw5.trans (hwr.mono z5)
      subst hpd
      clear hd PQ
      by_cases a1 : n ≤ p
      ·obtain rfl : OO = none := FN.out (by rw [FS.out, if_pos (.inl a1)])
       have a12 : (n : Int) ≤ (p : Int) := by omega
       go_wp2
       go_ret2
       exact (show ROut none w _ _ from ⟨rfl, bwr⟩)
      ·have a12 : ¬ (n : Int) ≤ (p : Int) := by omega
       by_cases a2 : 0 < q
       ·have a22 : (0 : Int) < (q : Int) := by omega
        have nd := nd_own9 hown
        obtain ⟨b2, off2, rfl, hbl2, hcel2⟩ := nd (by rw [length_lz]; omega)
        have co := hcel2 (q - 1) (by rw [length_lz]; omega)
        rw [gi_lz] at co
        have q11 : (q : Int) - 1 = ((q - 1 : Nat) : Int) := by omega
        have q12 : (((q - 1 : Nat) : Nat) : Int) < (q : Int) := by omega
        by_cases a3 : p ≤ gt out (q - 1)
        ·obtain rfl : OO = none := FN.out (by rw [FS.out, if_pos (.inr ⟨a2, a3⟩)])
         have a32 : (p : Int) ≤ (gt out (q - 1) : Int) := by omega
         go_wp2
         go_ret2
         exact (show ROut none w _ _ from ⟨rfl, bwr⟩)
        ·have a32 : ¬ (p : Int) ≤ (gt out (q - 1) : Int) := by omega
         have HD2 : Hid (fdec n v lo hi (q + 1) = some (out ++ [p])) := by
          show fdec n v lo hi (q + 1) = _
          rw [FS.out, if_neg (by omega)]
         have hq5 := hwr.size
         go_wp2_with (at_builtin; refine Ap.wpList_append_x (by rfl) _ _ _ (by rfl) w5.heap.size 3 i3 (.int .i64 0) 8 Tryz.underlying35 hi3 za3 zb3 zc3 rfl (.slice (some ⟨b2, off2, none⟩) q sc) q (lv out) (by rfl) (hown.alloc _) (some ⟨wr.heap.size, 0, none⟩) 1 1 [.int .i64 (p : Nat)] (by rfl) rfl ?c1_11 ?c2_11 ?c3_11 ?c4_11 ?c5_11 ?_)
         case c2_11 => first | rfl | (intro u hu; simp at hu; subst hu; rfl)
         case c3_11 => unfold maxLen; omega
         case c4_11 => omega
         case c5_11 => first | omega | (simp; omega)
         intro so2 sc2 w9 own9 hle9 hB9 hblk9 hkeep9 hsz9
         rw [lv_snoc] at own9
         have hw9 : Below w5.heap.size w5 w9 := (hwr.trans ((below_alloc wr _).mono hwr.size)).trans hB9
         have HX := hide9 own9
         clear own9 hB9 hblk9 hkeep9 hown FS FN HO hcel B1 bwr
         go_wp2
         exact ⟨⟨q + 1, out ++ [p], so2, sc2, by omega, by go_num, rfl, hle9, HD2, HX.out, hw9⟩, by simp only [intOf]; omega⟩
       ·have a22 : ¬ (0 : Int) < (q : Int) := by omega
        have HD2 : Hid (fdec n v lo hi (q + 1) = some (out ++ [p])) := by
         show fdec n v lo hi (q + 1) = _
         rw [FS.out, if_neg (by omega)]
        have hq5 := hwr.size
        go_wp2_with (at_builtin; refine Ap.wpList_append_x (by rfl) _ _ _ (by rfl) w5.heap.size 3 i3 (.int .i64 0) 8 Tryz.underlying35 hi3 za3 zb3 zc3 rfl (.slice so q sc) q (lv out) (by rfl) (hown.alloc _) (some ⟨wr.heap.size, 0, none⟩) 1 1 [.int .i64 (p : Nat)] (by rfl) rfl ?c1_21 ?c2_21 ?c3_21 ?c4_21 ?c5_21 ?_)
        case c2_21 => first | rfl | (intro u hu; simp at hu; subst hu; rfl)
        case c3_21 => unfold maxLen; omega
        case c4_21 => omega
        case c5_21 => first | omega | (simp; omega)
        intro so2 sc2 w9 own9 hle9 hB9 hblk9 hkeep9 hsz9
        rw [lv_snoc] at own9
        have hw9 : Below w5.heap.size w5 w9 := (hwr.trans ((below_alloc wr _).mono hwr.size)).trans hB9
        have HX := hide9 own9
        clear own9 hB9 hblk9 hkeep9 hown FS FN HO hcel B1 bwr
        go_wp2
        exact ⟨⟨q + 1, out ++ [p], so2, sc2, by omega, by go_num, rfl, hle9, HD2, HX.out, hw9⟩, by simp only [intOf]; omega⟩
     ·obtain rfl : q = hi.length := by omega
      have HO2 : OO = some out := HO.out.trans HD.out
      subst HO2
      have nd := nd_own9 hown
      have bwr := bw5.trans (hwr.mono z5)
      go_wp2
      go_ret2
      exact (show ROut (some out) w _ _ from ⟨so, sc, by rw [lo_]; rfl, nd, by omega, bwr⟩)
   ·have nv1 : (0 : Int) < (v : Int) := by omega
    have e4 : ((kn : Int) != (hi.length : Int)) = false := by simp; omega
    have hkn : kn = hi.length := by omega
    have PV : Hid (∀ q, fpl v lo hi q = (gt hi q - q) * 2 ^ v + gt lo q % 2 ^ v) := fun q => by unfold fpl; rw [if_neg hv0]
    go_wp2
    go_loopw [7, 8] (fun t i wr => ∃ (q : Nat) (out : List Nat) (so : Option Addr) (sc : Nat), q ≤ hi.length ∧ i = .int .i64 q ∧ t = .slice so q sc ∧ q ≤ sc ∧ Hid (fdec n v lo hi q = some out) ∧ wr.ownsRow w5.heap.size 3 1 (.slice so q sc) q (lv out) ∧ Below w5.heap.size w5 wr) (fun _ i _ => hi.length - (intOf i).toNat)
    case atStart => exact ⟨0, [], none, 0, Nat.zero_le _, rfl, rfl, Nat.le_refl _, rfl, World.ownsRow_nil _ _ _ _, Below.refl _ _⟩
    case round =>
     obtain ⟨q, out, so, sc, hq, rfl, rfl, hsc, HD, hown, hwr⟩ := hrel
     obtain ⟨lo_, hrise⟩ := fdec_len n v lo hi q out HD.out
     by_cases hlt : q < hi.length
     ·have hlt2 : (q : Int) < (hi.length : Int) := by omega
      obtain ⟨b, off, rfl, hbl, hcel⟩ := hHi (by rw [length_lz]; omega)
      have cq := (hwr.cell (p := ⟨b, off + q, none⟩) hbl).trans (hcel q (by rw [length_lz]; exact hlt))
      rw [gi_lz] at cq
      have hge := RS.step q 0 (by omega)
      rw [Nat.zero_add] at hge
      have hll := RS.1 q hlt
      obtain ⟨d, hd⟩ : ∃ d, Hid (d = gt hi q - q) := ⟨_, rfl⟩
      have hd2 : (gt hi q : Int) - (q : Int) = (d : Int) := by rw [hd.out]; omega
      have dl : d ≤ 1048576 := by rw [hd.out]; omega
      have n0 := (B1.kept hwr).cell 0 rfl
      have PQ := hide9 (PV.out q)
      obtain ⟨p, hp⟩ : ∃ p, Hid (p = fpl v lo hi q) := ⟨_, rfl⟩
      obtain ⟨b3, off3, rfl, hbl3, hcel3⟩ := hLo (by omega)
      have cl := (hwr.cell (p := ⟨b3, off3 + q, none⟩) hbl3).trans (hcel3 q (by omega))
      have xl := fL q
      obtain ⟨x, hx⟩ : ∃ x, Hid (x = gt lo q) := ⟨_, rfl⟩
      rw [← hx.out] at cl xl
      obtain ⟨P2, hP2⟩ : ∃ P2 : Nat, Hid ((2 : Nat) ^ v = P2) := ⟨2 ^ v, (rfl : (2 : Nat) ^ v = 2 ^ v)⟩
      have p20 : P2 ≤ 1048576 := by rw [← hP2.out]; exact Nat.pow_le_pow_right (show 0 < 2 by decide) w20
      have p00 : 0 < P2 := by rw [← hP2.out]; exact Nat.two_pow_pos v
      have pw : IntKind.u64.wrap ((2 : Int) ^ v) = (P2 : Int) := by rw [Bit.shl_one v (by omega), hP2.out]
      have p0 : ((P2 : Int) == 0) = false := by simp; omega
      obtain ⟨y, hy_⟩ : ∃ y, Hid (y = x % P2) := ⟨_, rfl⟩
      have yl : y < 1048576 := by rw [hy_.out]; exact Nat.lt_of_lt_of_le (Nat.mod_lt _ p00) p20
      have ym : (x : Int) % (P2 : Int) = (y : Int) := by rw [hy_.out]; omega
      have yt : (x : Int).tmod (P2 : Int) = (y : Int) := by rw [Int.tmod_eq_emod_of_nonneg (by omega)]; exact ym
      obtain ⟨DD, hDD⟩ : ∃ DD, Hid (DD = d * P2) := ⟨_, rfl⟩
      have dl2 : DD ≤ 1099511627776 := by rw [hDD.out]; exact Nat.le_trans (Nat.mul_le_mul dl p20) (by decide)
      have dw : (d : Int) * 2 ^ v = (DD : Int) := by rw [hDD.out, ← hP2.out, Int.natCast_mul, Int.natCast_pow]; rfl
      have hpn : Hid (p = DD + y) := by
       show p = DD + y
       rw [hDD.out, hy_.out, hp.out, PQ.out, hP2.out, hd.out, hx.out]
      have hps := sum9 DD y p hpn.out
      have pl2 := le9 DD y p hpn.out dl2 yl
      clear hcel3
      have FS : Hid (fdec n v lo hi (q + 1) = if n ≤ p ∨ (0 < q ∧ p ≤ gt out (q - 1)) then none else some (out ++ [p])) := by
       show fdec n v lo hi (q + 1) = _
       rw [fdec, HD.out, hp.out]
      have FN : Hid (fdec n v lo hi (q + 1) = none → OO = none) := fun h => by
       rw [HO.out]
       have := fdec_none n v lo hi (q + 1) h (hi.length - (q + 1))
       rwa [show q + 1 + (hi.length - (q + 1)) = hi.length by omega] at this
      have bwr := bw5.trans (hwr.mono z5)
      clear hd PQ
      by_cases a1 : n ≤ p
      ·obtain rfl : OO = none := FN.out (by rw [FS.out, if_pos (.inl a1)])
       have a12 : (n : Int) ≤ (p : Int) := by omega
       go_wp2
       go_ret2
       exact (show ROut none w _ _ from ⟨rfl, bwr⟩)
      ·have a12 : ¬ (n : Int) ≤ (p : Int) := by omega
       by_cases a2 : 0 < q
       ·have a22 : (0 : Int) < (q : Int) := by omega
        have nd := nd_own9 hown
        obtain ⟨b2, off2, rfl, hbl2, hcel2⟩ := nd (by rw [length_lz]; omega)
        have co := hcel2 (q - 1) (by rw [length_lz]; omega)
        rw [gi_lz] at co
        have q11 : (q : Int) - 1 = ((q - 1 : Nat) : Int) := by omega
        have q12 : (((q - 1 : Nat) : Nat) : Int) < (q : Int) := by omega
        by_cases a3 : p ≤ gt out (q - 1)
        ·obtain rfl : OO = none := FN.out (by rw [FS.out, if_pos (.inr ⟨a2, a3⟩)])
         have a32 : (p : Int) ≤ (gt out (q - 1) : Int) := by omega
         go_wp2
         go_ret2
         exact (show ROut none w _ _ from ⟨rfl, bwr⟩)
        ·have a32 : ¬ (p : Int) ≤ (gt out (q - 1) : Int) := by omega
         have HD2 : Hid (fdec n v lo hi (q + 1) = some (out ++ [p])) := by
          show fdec n v lo hi (q + 1) = _
          rw [FS.out, if_neg (by omega)]
         have hq5 := hwr.size
         go_wp2_with (at_builtin; refine Ap.wpList_append_x (by rfl) _ _ _ (by rfl) w5.heap.size 3 i3 (.int .i64 0) 8 Tryz.underlying35 hi3 za3 zb3 zc3 rfl (.slice (some ⟨b2, off2, none⟩) q sc) q (lv out) (by rfl) (hown.alloc _) (some ⟨wr.heap.size, 0, none⟩) 1 1 [.int .i64 (p : Nat)] (by rfl) rfl ?c1_11v ?c2_11v ?c3_11v ?c4_11v ?c5_11v ?_)
         case c2_11v => first | rfl | (intro u hu; simp at hu; subst hu; rfl)
         case c3_11v => unfold maxLen; omega
         case c4_11v => omega
         case c5_11v => first | omega | (simp; omega)
         intro so2 sc2 w9 own9 hle9 hB9 hblk9 hkeep9 hsz9
         rw [lv_snoc] at own9
         have hw9 : Below w5.heap.size w5 w9 := (hwr.trans ((below_alloc wr _).mono hwr.size)).trans hB9
         have HX := hide9 own9
         clear own9 hB9 hblk9 hkeep9 hown FS FN HO hcel B1 bwr
         go_wp2
         exact ⟨⟨q + 1, out ++ [p], so2, sc2, by omega, by go_num, rfl, hle9, HD2, HX.out, hw9⟩, by simp only [intOf]; omega⟩
       ·have a22 : ¬ (0 : Int) < (q : Int) := by omega
        have HD2 : Hid (fdec n v lo hi (q + 1) = some (out ++ [p])) := by
         show fdec n v lo hi (q + 1) = _
         rw [FS.out, if_neg (by omega)]
        have hq5 := hwr.size
        go_wp2_with (at_builtin; refine Ap.wpList_append_x (by rfl) _ _ _ (by rfl) w5.heap.size 3 i3 (.int .i64 0) 8 Tryz.underlying35 hi3 za3 zb3 zc3 rfl (.slice so q sc) q (lv out) (by rfl) (hown.alloc _) (some ⟨wr.heap.size, 0, none⟩) 1 1 [.int .i64 (p : Nat)] (by rfl) rfl ?c1_21v ?c2_21v ?c3_21v ?c4_21v ?c5_21v ?_)
        case c2_21v => first | rfl | (intro u hu; simp at hu; subst hu; rfl)
        case c3_21v => unfold maxLen; omega
        case c4_21v => omega
        case c5_21v => first | omega | (simp; omega)
        intro so2 sc2 w9 own9 hle9 hB9 hblk9 hkeep9 hsz9
        rw [lv_snoc] at own9
        have hw9 : Below w5.heap.size w5 w9 := (hwr.trans ((below_alloc wr _).mono hwr.size)).trans hB9
        have HX := hide9 own9
        clear own9 hB9 hblk9 hkeep9 hown FS FN HO hcel B1 bwr
        go_wp2
        exact ⟨⟨q + 1, out ++ [p], so2, sc2, by omega, by go_num, rfl, hle9, HD2, HX.out, hw9⟩, by simp only [intOf]; omega⟩
     ·obtain rfl : q = hi.length := by omega
      have HO2 : OO = some out := HO.out.trans HD.out
      subst HO2
      have nd := nd_own9 hown
      have bwr := bw5.trans (hwr.mono z5)
      go_wp2
      go_ret2
      exact (show ROut (some out) w _ _ from ⟨so, sc, by rw [lo_]; rfl, nd, by omega, bwr⟩)
  ·obtain rfl : OO = none := by rw [hOO.out, if_neg (fun c => e2 c.2)]
   have e3 : (0 : Int) < (v : Int) := by omega
   have e4 : ((kn : Int) != (mm : Int)) = true := by simp; omega
   clear hOO
   go_wp2
   go_ret2
   exact (show ROut none w _ _ from ⟨rfl, bw5⟩)
 ·obtain rfl : OO = none := by rw [hOO.out, if_neg (fun c => e1 c.1)]
  have e12 : ((hi.length : Int) != (mm : Int)) = true := by simp; omega
  clear hOO
  go_wp2
  go_ret2
  exact (show ROut none w _ _ from ⟨rfl, bw5⟩)
theorem isame_c9 (aN aW aM : Int) (ao : Option Addr) (ax : List Nat) (ac : Nat) (bN bW bM : Int) (bo : Option Addr) (bx : List Nat) (bc : Nat) (w : World) (hx : Wd w ao ax) (hy : Wd w bo bx) (hl : ax.length ≤ 1048576) :
  Calls Tryz.prog 169 #[.agg #[.int .i64 aN, .int .i64 aW, .int .i64 aM, .slice ao ax.length ac], .agg #[.int .i64 bN, .int .i64 bW, .int .i64 bM, .slice bo bx.length bc]] w fun e w' => e = .returned (.bool (decide (aN = bN) && (decide (aW = bW) && (decide (aM = bM) && decide (ax = bx))))) ∧ Below w.heap.size w w' := by
 obtain ⟨W, hW⟩ : ∃ W, W = (w.alloc (.cells #[.int .i64 aN, .int .i64 aW, .int .i64 aM, .slice ao ax.length ac] 39)).alloc (.cells #[.int .i64 bN, .int .i64 bW, .int .i64 bM, .slice bo bx.length bc] 39) := ⟨_, rfl⟩
 have bZ : Below w.heap.size w W := by rw [hW]; exact (below_alloc w _).alloc (by simp) _
 have B1 := yc3 hW
 have B2 := yc2 hW
 have C1 : Hid (∀ w0, w0 = W → Calls Tryz.prog 170 #[.agg #[.int .i64 aM, .slice ao ax.length ac], .agg #[.int .i64 bM, .slice bo bx.length bc]] w0 fun e w' => e = .returned (.bool (decide (aM = bM) && decide (ax = bx))) ∧ Below w0.heap.size w0 w') := fun w0 h => by subst h; exact same_c aM ao ax ac bM bo bx bc w0 (hx.keep bZ) (hy.keep bZ) hl
 generalize (decide (aM = bM) && decide (ax = bx)) = z at *
 by_cases h1 : aN = bN
 ·by_cases h2 : aW = bW
  ·rw [decide_eq_true h1, decide_eq_true h2]
   subst h1 h2
   go_enter Tryz.func169, Tryz.ntmps169
   go_wp2_with fail
   rw [← hW]
   refine (C1.out _ rfl).mono ?_
   rintro e w1 ⟨rfl, hb⟩
   have bw := bZ.trans (hb.mono bZ.size)
   go_wp2
   go_ret
   exact ⟨by cases z <;> rfl, bw⟩
  ·rw [decide_eq_true h1, decide_eq_false h2]
   have e2 : (aW == bW) = false := by simpa using h2
   subst h1
   have bw : Below w.heap.size w ((w.alloc (.cells #[.int .i64 aN, .int .i64 aW, .int .i64 aM, .slice ao ax.length ac] 39)).alloc (.cells #[.int .i64 aN, .int .i64 bW, .int .i64 bM, .slice bo bx.length bc] 39)) := (below_alloc w _).alloc (by simp) _
   clear C1 B1 B2 bZ hW W
   go_enter Tryz.func169, Tryz.ntmps169
   go_wp2
   go_ret
   exact ⟨rfl, bw⟩
 ·rw [decide_eq_false h1]
  have e1 : (aN == bN) = false := by simpa using h1
  have bw : Below w.heap.size w ((w.alloc (.cells #[.int .i64 aN, .int .i64 aW, .int .i64 aM, .slice ao ax.length ac] 39)).alloc (.cells #[.int .i64 bN, .int .i64 bW, .int .i64 bM, .slice bo bx.length bc] 39)) := (below_alloc w _).alloc (by simp) _
  clear C1 B1 B2 bZ hW W
  go_enter Tryz.func169, Tryz.ntmps169
  go_wp2
  go_ret
  exact ⟨rfl, bw⟩
theorem f9same_c (aN aM ak aV aL : Int) (ao : Option Addr) (ax : List Nat) (ac : Nat) (aH : Int) (aq : Option Addr) (ay : List Nat) (ad : Nat) (bN bM bk bV bL : Int) (bo : Option Addr) (bx : List Nat) (bc : Nat) (bH : Int) (bq : Option Addr) (by_ : List Nat) (bd : Nat) (w : World) (hx : Wd w ao ax) (hbx : Wd w bo bx) (hy : Wd w aq ay) (hby : Wd w bq by_) (hl : ax.length ≤ 1048576) (hly : ay.length ≤ 1048576) :
  Calls Tryz.prog 113 #[.agg #[.int .i64 aN, .int .i64 aM, .int .i64 ak, .int .i64 aV, .int .i64 aL, .slice ao ax.length ac, .int .i64 aH, .slice aq ay.length ad], .agg #[.int .i64 bN, .int .i64 bM, .int .i64 bk, .int .i64 bV, .int .i64 bL, .slice bo bx.length bc, .int .i64 bH, .slice bq by_.length bd]] w fun e w' => e = .returned (.bool (decide (aN = bN) && (decide (aM = bM) && ((decide (ak = bk) && (decide (aV = bV) && (decide (aL = bL) && decide (ax = bx)))) && (decide (aH = bH) && decide (ay = by_)))))) ∧ Below w.heap.size w w' := by
 obtain ⟨W, hW⟩ : ∃ W, W = (w.alloc (.cells #[.int .i64 aN, .int .i64 aM, .int .i64 ak, .int .i64 aV, .int .i64 aL, .slice ao ax.length ac, .int .i64 aH, .slice aq ay.length ad] 43)).alloc (.cells #[.int .i64 bN, .int .i64 bM, .int .i64 bk, .int .i64 bV, .int .i64 bL, .slice bo bx.length bc, .int .i64 bH, .slice bq by_.length bd] 43) := ⟨_, rfl⟩
 have bZ : Below w.heap.size w W := by rw [hW]; exact (below_alloc w _).alloc (by simp) _
 have B1 := yc3 hW
 have B2 := yc2 hW
 have C1 : Hid (∀ w0, w0 = W → Calls Tryz.prog 169 #[.agg #[.int .i64 ak, .int .i64 aV, .int .i64 aL, .slice ao ax.length ac], .agg #[.int .i64 bk, .int .i64 bV, .int .i64 bL, .slice bo bx.length bc]] w0 fun e w' => e = .returned (.bool (decide (ak = bk) && (decide (aV = bV) && (decide (aL = bL) && decide (ax = bx))))) ∧ Below w0.heap.size w0 w') := fun w0 h => by subst h; exact isame_c9 ak aV aL ao ax ac bk bV bL bo bx bc w0 (hx.keep bZ) (hbx.keep bZ) hl
 have C2 : Hid (∀ w0, Below w.heap.size w w0 → Calls Tryz.prog 170 #[.agg #[.int .i64 aH, .slice aq ay.length ad], .agg #[.int .i64 bH, .slice bq by_.length bd]] w0 fun e w' => e = .returned (.bool (decide (aH = bH) && decide (ay = by_))) ∧ Below w0.heap.size w0 w') := fun w0 h => same_c aH aq ay ad bH bq by_ bd w0 (hy.keep h) (hby.keep h) hly
 generalize (decide (ak = bk) && (decide (aV = bV) && (decide (aL = bL) && decide (ax = bx)))) = z1 at *
 generalize (decide (aH = bH) && decide (ay = by_)) = z2 at *
 clear hx hbx hy hby
 by_cases h1 : aN = bN
 ·have e1 : (aN == bN) = true := by simpa using h1
  by_cases h2 : aM = bM
  ·have e2 : (aM == bM) = true := by simpa using h2
   rw [decide_eq_true h1, decide_eq_true h2]
   clear h1 h2
   go_enter Tryz.func113, Tryz.ntmps113
   go_wp2_with fail
   rw [← hW]
   refine (C1.out _ rfl).mono ?_
   rintro e w1 ⟨rfl, hb⟩
   have bw := bZ.trans (hb.mono bZ.size)
   replace B1 := B1.kept hb
   replace B2 := B2.kept hb
   have p6 := B1.cell 6 rfl
   have p7 := B1.cell 7 rfl
   have q6 := B2.cell 6 rfl
   have q7 := B2.cell 7 rfl
   clear hb bZ hW C1
   cases z1 with
   | false =>
    go_wp2
    go_ret
    exact ⟨rfl, bw⟩
   | true =>
    go_wp2_with fail
    refine (C2.out _ bw).mono ?_
    rintro e w2 ⟨rfl, hb⟩
    have bw2 := bw.trans (hb.mono bw.size)
    clear hb
    go_wp2
    go_ret
    exact ⟨by cases z2 <;> rfl, bw2⟩
  ·have e2 : (aM == bM) = false := by simpa using h2
   rw [decide_eq_false h2]
   clear C1 C2 B1 B2 h1 h2
   go_enter Tryz.func113, Tryz.ntmps113
   go_wp2
   go_ret
   rw [← hW]
   exact ⟨by simp, bZ⟩
 ·have e1 : (aN == bN) = false := by simpa using h1
  rw [decide_eq_false h1]
  clear C1 C2 B1 B2 h1
  go_enter Tryz.func113, Tryz.ntmps113
  go_wp2
  go_ret
  rw [← hW]
  exact ⟨by simp, bZ⟩
theorem row9_c (N M k V LM : Int) (ao : Option Addr) (xs : List Nat) (cap : Nat) (H : Int) (qo : Option Addr) (ys : List Nat) (dap : Nat) (w : World) (hx : Wd w ao xs) (fx : Fit xs) (hy : Wd w qo ys) (fy : Fit ys) :
  Calls Tryz.prog 111 #[.agg #[.int .i64 N, .int .i64 M, .int .i64 k, .int .i64 V, .int .i64 LM, .slice ao xs.length cap, .int .i64 H, .slice qo ys.length dap]] w (ROut (fRow ⟨N, M, k, V, LM, xs, H, ys⟩) w) := by
 by_cases P : (0 ≤ N ∧ N ≤ 1048576 ∧ 0 ≤ M ∧ M ≤ N) ∧ ichk k V LM xs = true ∧ chk H ys = true
 ·obtain ⟨⟨p1, p2, p3, p4⟩, p5, p6⟩ := P
  obtain ⟨v1, v2, v3, v4, v5, v6, v7, v8⟩ := ichk_out _ _ _ _ p5
  obtain ⟨u1, u2, u3, u4⟩ := chk_out _ _ p6
  obtain ⟨n, rfl⟩ := Int.eq_ofNat_of_zero_le p1
  obtain ⟨mm, rfl⟩ := Int.eq_ofNat_of_zero_le p3
  obtain ⟨kn, rfl⟩ := Int.eq_ofNat_of_zero_le v3
  obtain ⟨vn, rfl⟩ := Int.eq_ofNat_of_zero_le (show 0 ≤ V by omega)
  obtain ⟨hh, rfl⟩ := Int.eq_ofNat_of_zero_le u1
  exact row9_main n mm kn vn hh LM ao xs cap qo ys dap w hx fx hy fy (by omega) (by omega) p5 p6
 ·rw [fRow_bad ⟨N, M, k, V, LM, xs, H, ys⟩ (fun h => P ⟨h.1, h.2.1, h.2.2.1⟩)]
  exact row9_bad N M k V LM H ao xs cap qo ys dap w hx fx hy fy P
def WO9 (N : Int) (X : List Nat) (S : Bool) (w : World) (e : Ending) (w' : World) : Prop := ∃ bo bc, e = .returned (.tuple #[.agg #[.int .i64 N, .slice bo X.length bc], .bool S]) ∧ Wd w' bo X ∧ X.length ≤ bc ∧ Below w.heap.size w w'
theorem fRow_n (a : FA) (l : List Nat) (h : fRow a = some l) : 0 ≤ a.N ∧ Rise l a.N.toNat := by
 unfold fRow at h
 simp only at h
 split at h
 ·rename_i c
  exact ⟨c.1.1, (fdec_len _ _ _ _ _ _ h).2⟩
 ·cases h
theorem f9whole_none (N M k V LM : Int) (ao : Option Addr) (xs : List Nat) (cap : Nat) (H : Int) (qo : Option Addr) (ys : List Nat) (dap : Nat) (w : World) (RC : Hid (∀ w0, Below w.heap.size w w0 → Calls Tryz.prog 111 #[.agg #[.int .i64 N, .int .i64 M, .int .i64 k, .int .i64 V, .int .i64 LM, .slice ao xs.length cap, .int .i64 H, .slice qo ys.length dap]] w0 fun e w' => e = .returned (.tuple #[.slice none 0 0, .bool false]) ∧ Below w0.heap.size w0 w')) :
  Calls Tryz.prog 59 #[.agg #[.int .i64 N, .int .i64 M, .int .i64 k, .int .i64 V, .int .i64 LM, .slice ao xs.length cap, .int .i64 H, .slice qo ys.length dap]] w fun e w' => e = .returned (.tuple #[.agg #[.int .i64 0, .slice none 0 0], .bool false]) ∧ Below w.heap.size w w' := by
 obtain ⟨W, hW⟩ : ∃ W, W = (w.alloc (.cells #[.int .i64 N, .int .i64 M, .int .i64 k, .int .i64 V, .int .i64 LM, .slice ao xs.length cap, .int .i64 H, .slice qo ys.length dap] 43)).alloc (.cells #[.int .i64 0, .slice none 0 0] 33) := ⟨_, rfl⟩
 have bW := yb2 hW
 have B1 := yc3 hW
 have B2 := yc2 hW
 go_enter Tryz.func59, Tryz.ntmps59
 go_wp2_with fail
 rw [← hW]
 refine (RC.out _ bW).mono ?_
 rintro e w1 ⟨rfl, hb⟩
 have bw1 := bW.trans (hb.mono bW.size)
 replace B2 := B2.kept hb
 clear hb bW hW RC B1
 go_wp2_with (refine store_cel (w.heap.size + 1) [.int .i64 0, .slice none 0 0] [.int .i64 0, .slice none 0 0] rfl rfl B2 rfl info_b2 (by simp [Value.oneCell']) ?_)
 intro w3 B3 O3
 have HZ := hide9 (And.intro B3 (bw1.trans (O3.below (Nat.le_succ _))))
 clear B3 O3 B2
 go_wp2
 (try simp only [Exit.inBlock, Exit.then])
 exact bodyPost_ret (result_cel rfl (w.heap.size + 1) _ rfl HZ.out.1 Tryz.underlying33 info_b2) rfl ⟨rfl, HZ.out.2⟩
theorem f9whole_some (n : Nat) (M k V LM : Int) (ao : Option Addr) (xs : List Nat) (cap : Nat) (H : Int) (qo : Option Addr) (ys : List Nat) (dap : Nat) (l : List Nat) (w : World) (hn : n ≤ 3000) (hr : Rise l n) (y1 y2 y3 y4 y5 y7 : Int) (y6 y8 : Nat) (S : Bool)
  (RC : Hid (∀ w0, Below w.heap.size w w0 → Calls Tryz.prog 111 #[.agg #[.int .i64 (n : Nat), .int .i64 M, .int .i64 k, .int .i64 V, .int .i64 LM, .slice ao xs.length cap, .int .i64 H, .slice qo ys.length dap]] w0 fun e w' => ∃ so sc, e = .returned (.tuple #[.slice so l.length sc, .bool true]) ∧ Nd w' so (lz l) ∧ l.length ≤ sc ∧ Below w0.heap.size w0 w'))
  (YP : World → Option Addr → Nat → Option Addr → Nat → Prop) (yk : ∀ w1 w2 yo yc zo zc, YP w1 yo yc zo zc → Below w1.heap.size w1 w2 → YP w2 yo yc zo zc)
  (OC : Hid (∀ w0 so sc, Nd w0 so (lz l) → Calls Tryz.prog 112 #[.int .i64 (n : Nat), .slice so l.length sc] w0 fun e w' => ∃ yo yc zo zc, e = .returned (.tuple #[.agg #[.int .i64 y1, .int .i64 y2, .int .i64 y3, .int .i64 y4, .int .i64 y5, .slice yo y6 yc, .int .i64 y7, .slice zo y8 zc], .int .i64 0]) ∧ YP w' yo yc zo zc ∧ Below w0.heap.size w0 w'))
  (SC : Hid (∀ w0 yo yc zo zc, Below w.heap.size w w0 → YP w0 yo yc zo zc → Calls Tryz.prog 113 #[.agg #[.int .i64 (n : Nat), .int .i64 M, .int .i64 k, .int .i64 V, .int .i64 LM, .slice ao xs.length cap, .int .i64 H, .slice qo ys.length dap], .agg #[.int .i64 y1, .int .i64 y2, .int .i64 y3, .int .i64 y4, .int .i64 y5, .slice yo y6 yc, .int .i64 y7, .slice zo y8 zc]] w0 fun e w' => e = .returned (.bool S) ∧ Below w0.heap.size w0 w')) :
  Calls Tryz.prog 59 #[.agg #[.int .i64 (n : Nat), .int .i64 M, .int .i64 k, .int .i64 V, .int .i64 LM, .slice ao xs.length cap, .int .i64 H, .slice qo ys.length dap]] w (WO9 (if S = true then (n : Int) else 0) (if S = true then rowOf n (isIn l) else []) S w) := by
 obtain ⟨i4, hi4, za4, zb4, zc4⟩ := info_parts info4_9
 obtain ⟨W, hW⟩ : ∃ W, W = (w.alloc (.cells #[.int .i64 (n : Nat), .int .i64 M, .int .i64 k, .int .i64 V, .int .i64 LM, .slice ao xs.length cap, .int .i64 H, .slice qo ys.length dap] 43)).alloc (.cells #[.int .i64 0, .slice none 0 0] 33) := ⟨_, rfl⟩
 have bW := yb2 hW
 have B1 := yc3 hW
 have B2 := yc2 hW
 cases S with
 | false =>
  go_enter Tryz.func59, Tryz.ntmps59
  go_wp2_with fail
  rw [← hW]
  refine (RC.out _ bW).mono ?_
  rintro e w1 ⟨so, sc, rfl, hN, hsc, hb⟩
  have bw1 := bW.trans (hb.mono bW.size)
  replace B1 := B1.kept hb
  replace B2 := B2.kept hb
  have q0 := B1.cell 0 rfl
  clear hb bW hW RC
  go_wp2_with fail
  refine (OC.out _ _ _ hN).mono ?_
  rintro e w2 ⟨yo, yc, zo, zc, rfl, hY, hb⟩
  have bw2 := bw1.trans (hb.mono bw1.size)
  replace B1 := B1.kept hb
  replace B2 := B2.kept hb
  clear hb OC bw1 q0
  have bA := below_alloc w2 (.cells #[.int .i64 y1, .int .i64 y2, .int .i64 y3, .int .i64 y4, .int .i64 y5, .slice yo y6 yc, .int .i64 y7, .slice zo y8 zc] 43)
  have D6 := Cel.new w2 [.int .i64 y1, .int .i64 y2, .int .i64 y3, .int .i64 y4, .int .i64 y5, .slice yo y6 yc, .int .i64 y7, .slice zo y8 zc] 43
  have E1 := B1.kept bA
  have E2 := B2.kept bA
  have hY2 := yk _ _ _ _ _ _ hY bA
  have bw3 := bw2.trans (bA.mono bw2.size)
  clear B1 B2 hY bA
  go_wp2_with (first | refine load_obj w.heap.size _ (by rfl) rfl E1 Tryz.underlying43 info_f8 ?_ | refine load_obj w2.heap.size _ (by rfl) rfl D6 Tryz.underlying43 info_f8 ?_)
  refine (SC.out _ _ _ _ _ bw3 hY2).mono ?_
  rintro e w4 ⟨rfl, hb⟩
  have bw4 := bw3.trans (hb.mono bw3.size)
  replace E2 := E2.kept hb
  clear hb SC D6 E1 hY2 bw3
  go_wp2_with (refine store_cel (w.heap.size + 1) [.int .i64 0, .slice none 0 0] [.int .i64 0, .slice none 0 0] rfl rfl E2 rfl info_b2 (by simp [Value.oneCell']) ?_)
  intro w5 B3 O3
  have HZ := hide9 (And.intro B3 (bw4.trans (O3.below (Nat.le_succ _))))
  clear B3 O3 E2
  go_wp2
  (try simp only [Exit.inBlock, Exit.then])
  exact bodyPost_ret (result_cel rfl (w.heap.size + 1) _ rfl HZ.out.1 Tryz.underlying33 info_b2) rfl (show WO9 0 [] false w _ _ from ⟨none, 0, rfl, wd0' _ _, Nat.zero_le _, HZ.out.2⟩)
 | true =>
  have FR : Hid (∀ (w0 : World) (g : Nat), Cel w0 g (bvs n (isIn l)) 4 → Calls Tryz.prog 39 #[.slice (some ⟨g, 0, none⟩) n n] w0 fun e w' => ∃ g', e = .returned (.tuple #[.agg #[.int .i64 (n : Nat), .slice (some ⟨g', 0, none⟩) (rowOf n (isIn l)).length (rowOf n (isIn l)).length], .int .i64 0]) ∧ w0.heap.size ≤ g' ∧ Own w' g' (rowOf n (isIn l)) ∧ Below w0.heap.size w0 w') := fun w0 g h => by
   have hlen : (bls n (isIn l)).length = n := by simp [bls]
   have h3 := reffrom_ok (some ⟨g, 0, none⟩) (bls n (isIn l)) n _ w0 (bl_cel h) (by rw [hlen]; omega) rfl
   rw [fromS_all] at h3
   have e6 : frL (bls n (isIn l)) = rowOf n (isIn l) := by
    unfold frL
    rw [hlen]
    refine rowOf_congr n _ _ fun i hi => ?_
    unfold bt bls
    rw [List.getD_eq_getElem?_getD, List.getElem?_map, List.getElem?_range hi]
    rfl
   have e5 : (rowOf n (isIn l)).length = (n + 63) / 64 := length_rowOf _ _
   rw [hlen, e6] at h3
   rw [e5]
   exact h3
  generalize hYY : rowOf n (isIn l) = YY at *
  clear hYY
  go_enter Tryz.func59, Tryz.ntmps59
  go_wp2_with fail
  rw [← hW]
  refine (RC.out _ bW).mono ?_
  rintro e w1 ⟨so, sc, rfl, hN, hsc, hb⟩
  have bw1 := bW.trans (hb.mono bW.size)
  replace B1 := B1.kept hb
  replace B2 := B2.kept hb
  have q0 := B1.cell 0 rfl
  clear hb bW hW RC
  go_wp2_with fail
  refine (OC.out _ _ _ hN).mono ?_
  rintro e w2 ⟨yo, yc, zo, zc, rfl, hY, hb⟩
  have bw2 := bw1.trans (hb.mono bw1.size)
  replace B1 := B1.kept hb
  replace B2 := B2.kept hb
  replace hN := Nd.keep hN hb
  clear hb OC bw1 q0
  have bA := below_alloc w2 (.cells #[.int .i64 y1, .int .i64 y2, .int .i64 y3, .int .i64 y4, .int .i64 y5, .slice yo y6 yc, .int .i64 y7, .slice zo y8 zc] 43)
  have D6 := Cel.new w2 [.int .i64 y1, .int .i64 y2, .int .i64 y3, .int .i64 y4, .int .i64 y5, .slice yo y6 yc, .int .i64 y7, .slice zo y8 zc] 43
  have E1 := B1.kept bA
  have E2 := B2.kept bA
  have hY2 := yk _ _ _ _ _ _ hY bA
  have bw3 := bw2.trans (bA.mono bw2.size)
  replace hN := Nd.keep hN bA
  clear B1 B2 hY bA
  go_wp2_with (first | refine load_obj w.heap.size _ (by rfl) rfl E1 Tryz.underlying43 info_f8 ?_ | refine load_obj w2.heap.size _ (by rfl) rfl D6 Tryz.underlying43 info_f8 ?_)
  refine (SC.out _ _ _ _ _ bw3 hY2).mono ?_
  rintro e w4 ⟨rfl, hb⟩
  have bw4 := bw3.trans (hb.mono bw3.size)
  replace E1 := E1.kept hb
  replace E2 := E2.kept hb
  replace hN := Nd.keep hN hb
  clear hb SC D6 hY2 bw3 bw2
  have gl := E2.lt
  have q0 := E1.cell 0 rfl
  go_wp2_with (at_make; refine wpList_make_full _ rfl _ _ 85 rfl w4.heap.size 4 i4 (.bool false) 1 Tryz.underlying85 hi4 za4 zb4 .i64 .i64 _ _ n rfl rfl rfl rfl ?b2 ?b3 ?b4 ?_)
  case b2 => rw [zc4]; omega
  case b3 => unfold maxLen; omega
  case b4 => exact Nat.le_refl _
  intro w5 hown hgr
  have hB := bcel_made hown
  have bG : Below w4.heap.size w4 w5 := (Below.refl _ _).grown hgr (Nat.le_refl _) (fun k h => by cases h)
  replace E2 := E2.kept bG
  have bw5 := bw4.trans (bG.mono bw4.size)
  have bz := bw4.size
  clear hown hgr bw4 E1 q0
  have hN2 : Hid (∀ q, q < l.length → ∃ b off, so = some ⟨b, off, none⟩ ∧ b < w4.heap.size ∧ w5.cell? ⟨b, off + q, none⟩ = some (.int .i64 (gt l q : Nat))) := fun q hq => by
   obtain ⟨b, off, e, hbl, hcel⟩ := hN (by rw [length_lz]; omega)
   have h1 := hcel q (by rw [length_lz]; exact hq)
   rw [gi_lz] at h1
   exact ⟨b, off, e, hbl, (bG.cell (p := ⟨b, off + q, none⟩) hbl).trans h1⟩
  clear hN bG
  generalize w4.heap.size = g at *
  go_wp2
  go_loopw [9] (fun iv wr => ∃ q : Nat, q ≤ l.length ∧ iv = .int .i64 q ∧ Cel wr g (bvs n (isIn (l.take q))) 4 ∧ Only g w5 wr) (fun iv _ => l.length - (intOf iv).toNat)
  case atStart => exact ⟨0, Nat.zero_le _, rfl, by rw [bvs_congr n (isIn (l.take 0)) (fun _ => false) (fun i _ => by simp [isIn])]; exact hB, Only.refl _ _⟩
  case round =>
   obtain ⟨q, hq, rfl, hC, hOn⟩ := hrel
   by_cases hlt : q < l.length
   ·have hlt2 : (q : Int) < (l.length : Int) := by omega
    obtain ⟨b, off, rfl, hbl, hc5⟩ := hN2.out q hlt
    have cq : wr.cell? ⟨b, off + q, none⟩ = some (.int .i64 (gt l q : Nat)) := (World.cell?_of_block (w := w5) (hOn.block b (by omega))).trans hc5
    have xl := hr.1 q hlt
    have lln := hr.len
    have ql3 : q < 3000 := by omega
    clear lln
    have ST := hide9 (isIn_snoc (l.take q) (gt l q))
    have TK := hide9 (take_snoc' l q hlt)
    have cj := hC.cell (gt l q) (bvs_get _ _ _ xl)
    have fj := hC.frozen (gt l q)
    have st := hC.set (gt l q) (.bool true)
    rw [bvs_set] at st
    have HS : Hid (Cel (wr.setCell ⟨g, gt l q, none⟩ (.bool true)) g (bvs n (isIn (l.take (q + 1)))) 4 ∧ Only g w5 (wr.setCell ⟨g, gt l q, none⟩ (.bool true))) := by
     refine ⟨?_, hOn.set _ _⟩
     rw [TK.out, bvs_congr n _ _ (fun i _ => ST.out i)]
     exact st
    have xl2 : (gt l q : Int) < (n : Int) := by omega
    clear st hc5 hC hOn
    generalize gt l q = x at *
    go_wp2
    exact ⟨⟨q + 1, by omega, by go_num, HS.out.1, HS.out.2⟩, by simp only [intOf]; omega⟩
   ·obtain rfl : q = l.length := by omega
    rw [List.take_of_length_le (Nat.le_refl _)] at hC
    have F1 := hide9 (FR.out wr g hC)
    have E3 := hOn.cel E2 (by omega)
    have bw6 := bw5.trans (hOn.below (by omega))
    have e3l := E3.lt
    clear FR hC hOn hB E2 bw5
    go_wp2_with fail
    refine F1.out.mono ?_
    rintro e w6 ⟨g', rfl, hg', hO, hb⟩
    replace E3 := E3.kept hb
    have bw7 := bw6.trans (hb.mono bw6.size)
    clear hb F1
    have bA := below_alloc w6 (.cells #[.int .i64 (n : Nat), .slice (some ⟨g', 0, none⟩) YY.length YY.length] 33)
    have D7 := Cel.new w6 [.int .i64 (n : Nat), .slice (some ⟨g', 0, none⟩) YY.length YY.length] 33
    have E4 := E3.kept bA
    have hO2 := hO.keep bA
    have bw8 := bw7.trans (bA.mono bw7.size)
    have gx : g' ≠ w.heap.size + 1 := by omega
    clear E3 hO bA bw6 bw7
    go_wp2_with (first | refine load_cel w6.heap.size _ rfl D7 Tryz.underlying33 info_b2 ?_ | refine store_cel (w.heap.size + 1) [.int .i64 0, .slice none 0 0] _ rfl rfl E4 rfl info_b2 (by simp [Value.oneCell']) ?_)
    intro w9 B3 O3
    have hO3 : Own w9 g' YY := (O3.block g' gx).trans hO2
    have HZ := hide9 (And.intro B3 (And.intro hO3 (bw8.trans (O3.below (Nat.le_succ _)))))
    clear B3 O3 hO2 hO3 D7 E4 bw8
    go_wp2
    (try simp only [Exit.inBlock, Exit.then])
    exact bodyPost_ret (result_cel rfl (w.heap.size + 1) _ rfl HZ.out.1 Tryz.underlying33 info_b2) rfl (show WO9 (n : Int) YY true w _ _ from ⟨some ⟨g', 0, none⟩, YY.length, rfl, HZ.out.2.1.wd, Nat.le_refl _, HZ.out.2.2⟩)
theorem fSame_as (a b : FA) : (decide (a.N = b.N) && (decide (a.M = b.M) && ((decide (a.k = b.k) && (decide (a.V = b.V) && (decide (a.LM = b.LM) && decide (a.xs = b.xs)))) && (decide (a.H = b.H) && decide (a.ys = b.ys))))) = fSame a b := by
 unfold fSame
 simp only [Bool.and_assoc]
theorem f9whole_k (cs : List Value) (a : RA9) (w : World) (h : KI9 w cs a) :
  Calls Tryz.prog 59 #[.agg cs.toArray] w fun e w' => ∃ bo bc, e = .returned (.tuple #[.agg #[.int .i64 (kBN9 a), .slice bo (kBX9 a).length bc], .bool (kOk9 a)]) ∧ Wd w' bo (kBX9 a) ∧ (kBX9 a).length ≤ bc ∧ Below w.heap.size w w' := by
 obtain ⟨⟨ao, cap, qo, dap, rfl, _, a1, a2, a3, a4, a5, a6⟩, n3, xl, yl⟩ := h
 obtain ⟨N, M, k, V, LM, xs, H, ys⟩ := a
 dsimp only at *
 have RC := fun (w0 : World) (hb : Below w.heap.size w w0) => row9_c N M k V LM ao xs cap H qo ys dap w0 (a1.keep hb) a2 (a4.keep hb) a5
 cases hrow : fRow ⟨N, M, k, V, LM, xs, H, ys⟩ with
 | none =>
  rw [hrow] at RC
  have ok : kOk9 ⟨N, M, k, V, LM, xs, H, ys⟩ = false := by unfold kOk9; rw [hrow]
  have e1 : kBN9 ⟨N, M, k, V, LM, xs, H, ys⟩ = 0 := by unfold kBN9; rw [ok]; rfl
  have e2 : kBX9 ⟨N, M, k, V, LM, xs, H, ys⟩ = [] := by unfold kBX9; rw [ok]; rfl
  rw [ok, e1, e2]
  refine (f9whole_none N M k V LM ao xs cap H qo ys dap w RC).mono ?_
  rintro e w' ⟨rfl, hb⟩
  exact ⟨none, 0, rfl, wd0' _ _, Nat.zero_le _, hb⟩
 | some l =>
  rw [hrow] at RC
  obtain ⟨n0, hr⟩ := fRow_n _ l hrow
  dsimp only at n0 hr
  obtain ⟨n, rfl⟩ := Int.eq_ofNat_of_zero_le n0
  rw [Int.toNat_natCast] at hr
  have hn : n ≤ 3000 := by omega
  have ok : kOk9 ⟨n, M, k, V, LM, xs, H, ys⟩ = fSame ⟨n, M, k, V, LM, xs, H, ys⟩ (fOf n l) := by unfold kOk9; rw [hrow]; rfl
  have e0 : kRow ⟨n, M, k, V, LM, xs, H, ys⟩ = l := by unfold kRow; rw [hrow]; rfl
  have e1 : kBN9 ⟨n, M, k, V, LM, xs, H, ys⟩ = if kOk9 ⟨n, M, k, V, LM, xs, H, ys⟩ = true then (n : Int) else 0 := rfl
  have e2 : kBX9 ⟨n, M, k, V, LM, xs, H, ys⟩ = if kOk9 ⟨n, M, k, V, LM, xs, H, ys⟩ = true then rowOf n (isIn l) else [] := by unfold kBX9; rw [e0]; rfl
  rw [e1, e2]
  refine f9whole_some n M k V LM ao xs cap H qo ys dap l w hn hr (fOf n l).N (fOf n l).M (fOf n l).k (fOf n l).V (fOf n l).LM (fOf n l).H (fOf n l).xs.length (fOf n l).ys.length _ RC (fun w0 yo yc zo zc => Wd w0 yo (fOf n l).xs ∧ Wd w0 zo (fOf n l).ys) (fun w1 w2 yo yc zo zc h hb => ⟨h.1.keep hb, h.2.keep hb⟩) ?_ ?_
  ·intro w0 so sc hN
   refine (of9_c n so l sc w0 hN hr hn).mono ?_
   rintro e w' ⟨bo, bc, qo', qc, rfl, ⟨h1, _, h2, _⟩, hb⟩
   exact ⟨bo, bc, qo', qc, rfl, ⟨h1, h2⟩, hb⟩
  ·intro w0 yo yc zo zc hb hY
   have := f9same_c (n : Int) M k V LM ao xs cap H qo ys dap (fOf n l).N (fOf n l).M (fOf n l).k (fOf n l).V (fOf n l).LM yo (fOf n l).xs yc (fOf n l).H zo (fOf n l).ys zc w0 (a1.keep hb) hY.1 (a4.keep hb) hY.2 xl yl
   rw [fSame_as ⟨n, M, k, V, LM, xs, H, ys⟩ (fOf n l), ← ok] at this
   exact this
end Go.Proofs.YtfnkklkdajlhlaaGreatDoor
