/-
  The contracts of the document's none, nones and zero. The contract of the document's Whole. The contracts of the document's Check, Bits, Access, Rank and Select, over that of its Whole. The contracts of the document's Check, Bits, Access, Rank, Select, Size and Same, over objects.
-/
import Derived.Test.YtcaalcjcpddhaaaGreatS51
set_option linter.unusedVariables false
set_option linter.unusedSimpArgs false
set_option maxRecDepth 100000
namespace Go.Proofs.YtcaalcjcpddhaaaGreat
open Go.RowKit Num Bit
theorem norw1 (N : Int) (n : Nat) : norw [(N, n)] = (decide (N = 0) && decide ((n : Int) = 0)) := by simp [norw]
theorem norw2 (p q : Int × Nat) : norw [p, q] = (norw [p] && norw [q]) := by simp [norw]
set_option maxHeartbeats 1000000 in
theorem none_c (N : Int) (ao : Option Addr) (n cap : Nat) (w : World) :
  Calls Tryz.prog 87 #[.agg #[.int .i64 N, .slice ao n cap]] w fun e w' => e = .returned (.bool (norw [(N, n)])) ∧ Below w.heap.size w w' := by
 rw [norw1]
 by_cases q : N = 0
 ·subst q
  by_cases r : (n : Int) = 0
  ·have d : ((n : Int) == 0) = true := by simp only [r]; rfl
   rw [decide_eq_true r]
   go_enter Tryz.func87, Tryz.ntmps87
   go_wp2
   go_ret
   exact ⟨rfl, below_alloc _ _⟩
  ·have d : ((n : Int) == 0) = false := beq_eq_false_iff_ne.2 r
   rw [decide_eq_false r]
   go_enter Tryz.func87, Tryz.ntmps87
   go_wp2
   go_ret
   exact ⟨rfl, below_alloc _ _⟩
 ·have d : (N == 0) = false := beq_eq_false_iff_ne.2 q
  rw [decide_eq_false q]
  go_enter Tryz.func87, Tryz.ntmps87
  go_wp2
  go_ret
  exact ⟨rfl, below_alloc _ _⟩
def nons (k V M : Int) (n : Nat) : Bool := decide (k = 0) && (decide (V = 0) && norw [(M, n)])
set_option maxHeartbeats 1000000 in
theorem nones_c (k V M : Int) (ao : Option Addr) (n cap : Nat) (w : World) :
  Calls Tryz.prog 88 #[.agg #[.int .i64 k, .int .i64 V, .int .i64 M, .slice ao n cap]] w fun e w' => e = .returned (.bool (nons k V M n)) ∧ Below w.heap.size w w' := by
 unfold nons
 by_cases q : k = 0
 ·subst q
  by_cases r : V = 0
  ·subst r
   have C := none_c M ao n cap
   generalize norw [(M, n)] = R at *
   go_enter Tryz.func88, Tryz.ntmps88
   go_wp2_with fail
   refine (C _).mono ?_
   rintro e w1 ⟨rfl, hb⟩
   have bw := (below_alloc w _).trans (hb.mono (by simp))
   go_wp2
   go_ret
   exact ⟨by cases R <;> rfl, bw⟩
  ·have d : (V == 0) = false := beq_eq_false_iff_ne.2 r
   rw [decide_eq_false r]
   go_enter Tryz.func88, Tryz.ntmps88
   go_wp2
   go_ret
   exact ⟨rfl, below_alloc _ _⟩
 ·have d : (k == 0) = false := beq_eq_false_iff_ne.2 q
  rw [decide_eq_false q]
  go_enter Tryz.func88, Tryz.ntmps88
  go_wp2
  go_ret
  exact ⟨rfl, below_alloc _ _⟩
set_option maxHeartbeats 8000000 in
theorem zero_c (cs : List Value) (a : RA) (w : World) (h : KI w cs a) :
  Calls Tryz.prog 68 #[.agg cs.toArray] w fun e w' => e = .returned (.bool (kZs a)) ∧ Below w.heap.size w w' := by
 obtain ⟨⟨cp, cr, cf, rfl, hK, h1, h2, h3⟩, sm⟩ := h
 have s1 := sm.p2
 have s2 := sm.p3
 have s3 := sm.r3
 have s4 := sm.r4
 clear sm
 obtain ⟨K, ⟨N, xs, S, T⟩, ⟨N8, k8, V8, M8, x8, L8, y8, S8, T8⟩, ⟨N9, M9, k9, V9, L9, x9, H9, y9⟩⟩ := a
 dsimp only at *
 obtain ⟨ao, cap, so, sc, tO, tc, rfl, -⟩ := h1
 obtain ⟨a8, e8, q8, d8, s8, f8, t8, g8, rfl, -⟩ := h2
 obtain ⟨a9, e9, q9, d9, rfl, -⟩ := h3
 dsimp only at *
 obtain ⟨Z, hZ⟩ : ∃ Z, Hid (Z = kZs ⟨K, ⟨N, xs, S, T⟩, ⟨N8, k8, V8, M8, x8, L8, y8, S8, T8⟩, ⟨N9, M9, k9, V9, L9, x9, H9, y9⟩⟩) := ⟨_, rfl⟩
 obtain ⟨A, hA⟩ : ∃ A, Hid (A = z7 ⟨N, xs, S, T⟩) := ⟨_, rfl⟩
 obtain ⟨B, hB⟩ : ∃ B, Hid (B = z8 ⟨N8, k8, V8, M8, x8, L8, y8, S8, T8⟩) := ⟨_, rfl⟩
 obtain ⟨C, hC⟩ : ∃ C, Hid (C = z9 ⟨N9, M9, k9, V9, L9, x9, H9, y9⟩) := ⟨_, rfl⟩
 have hZ2 : Hid (Z = ((decide (K = 1) || A) && ((decide (K = 2) || B) && (decide (K = 3) || C)))) := by
  show Z = _
  rw [hZ.out, hA.out, hB.out, hC.out]
  rfl
 rw [← hZ.out]
 have EA : Hid (A = (norw [(N, xs.length)] && decide ((S.length : Int) + (T.length : Int) = 0))) := by
  show A = _
  rw [hA.out]
  unfold z7
  dsimp only
  congr 1
  rw [← Bool.decide_and]
  congr 1
  simp only [eq_iff_iff]
  omega
 have EB : Hid (B = (decide (N8 = 0) && (nons k8 V8 M8 x8.length && (norw [(L8, y8.length)] && decide ((S8.length : Int) + (T8.length : Int) = 0))))) := by
  show B = _
  rw [hB.out]
  unfold z8 nons
  dsimp only
  rw [norw2, show decide ((S8.length : Int) + (T8.length : Int) = 0) = (decide ((S8.length : Int) = 0) && decide ((T8.length : Int) = 0)) by rw [← Bool.decide_and]; congr 1; simp only [eq_iff_iff]; omega]
  simp only [Bool.and_assoc]
 have EC : Hid (C = (decide (N9 = 0) && (decide (M9 = 0) && (nons k9 V9 L9 x9.length && norw [(H9, y9.length)])))) := by
  show C = _
  rw [hC.out]
  unfold z9 nons
  dsimp only
  rw [norw2]
  simp only [Bool.and_assoc]
 clear hZ hA hB hC
 have wS : IntKind.i64.wrap ((S.length : Int) + (T.length : Int)) = (S.length : Int) + (T.length : Int) := by rw [IntKind.wrap_i64]; omega
 have wS8 : IntKind.i64.wrap ((S8.length : Int) + (T8.length : Int)) = (S8.length : Int) + (T8.length : Int) := by rw [IntKind.wrap_i64]; omega
 have N1 : Hid (∀ w0 : World, Calls Tryz.prog 87 #[.agg #[.int .i64 N, .slice ao xs.length cap]] w0 fun e w' => e = .returned (.bool (norw [(N, xs.length)])) ∧ Below w0.heap.size w0 w') := fun w0 => none_c N ao xs.length cap w0
 have N2 : Hid (∀ w0 : World, Calls Tryz.prog 88 #[.agg #[.int .i64 k8, .int .i64 V8, .int .i64 M8, .slice a8 x8.length e8]] w0 fun e w' => e = .returned (.bool (nons k8 V8 M8 x8.length)) ∧ Below w0.heap.size w0 w') := fun w0 => nones_c k8 V8 M8 a8 x8.length e8 w0
 have N3 : Hid (∀ w0 : World, Calls Tryz.prog 87 #[.agg #[.int .i64 L8, .slice q8 y8.length d8]] w0 fun e w' => e = .returned (.bool (norw [(L8, y8.length)])) ∧ Below w0.heap.size w0 w') := fun w0 => none_c L8 q8 y8.length d8 w0
 have N4 : Hid (∀ w0 : World, Calls Tryz.prog 88 #[.agg #[.int .i64 k9, .int .i64 V9, .int .i64 L9, .slice a9 x9.length e9]] w0 fun e w' => e = .returned (.bool (nons k9 V9 L9 x9.length)) ∧ Below w0.heap.size w0 w') := fun w0 => nones_c k9 V9 L9 a9 x9.length e9 w0
 have N5 : Hid (∀ w0 : World, Calls Tryz.prog 87 #[.agg #[.int .i64 H9, .slice q9 y9.length d9]] w0 fun e w' => e = .returned (.bool (norw [(H9, y9.length)])) ∧ Below w0.heap.size w0 w') := fun w0 => none_c H9 q9 y9.length d9 w0
 have B0 : Cel (w.alloc (.cells ([.int .i64 K, .int .i64 N, .slice ao xs.length cap, .slice so S.length sc, .slice tO T.length tc, .int .i64 N8, .int .i64 k8, .int .i64 V8, .int .i64 M8, .slice a8 x8.length e8, .int .i64 L8, .slice q8 y8.length d8, .slice s8 S8.length f8, .slice t8 T8.length g8, .int .i64 N9, .int .i64 M9, .int .i64 k9, .int .i64 V9, .int .i64 L9, .slice a9 x9.length e9, .int .i64 H9, .slice q9 y9.length d9] : List Value).toArray 36)) w.heap.size [.int .i64 K, .int .i64 N, .slice ao xs.length cap, .slice so S.length sc, .slice tO T.length tc, .int .i64 N8, .int .i64 k8, .int .i64 V8, .int .i64 M8, .slice a8 x8.length e8, .int .i64 L8, .slice q8 y8.length d8, .slice s8 S8.length f8, .slice t8 T8.length g8, .int .i64 N9, .int .i64 M9, .int .i64 k9, .int .i64 V9, .int .i64 L9, .slice a9 x9.length e9, .int .i64 H9, .slice q9 y9.length d9] 36 := Cel.new w _ _
 have bw : Below w.heap.size w (w.alloc (.cells ([.int .i64 K, .int .i64 N, .slice ao xs.length cap, .slice so S.length sc, .slice tO T.length tc, .int .i64 N8, .int .i64 k8, .int .i64 V8, .int .i64 M8, .slice a8 x8.length e8, .int .i64 L8, .slice q8 y8.length d8, .slice s8 S8.length f8, .slice t8 T8.length g8, .int .i64 N9, .int .i64 M9, .int .i64 k9, .int .i64 V9, .int .i64 L9, .slice a9 x9.length e9, .int .i64 H9, .slice q9 y9.length d9] : List Value).toArray 36)) := below_alloc w _
 generalize hsum : (S.length : Int) + (T.length : Int) = s7 at *
 generalize hsum8 : (S8.length : Int) + (T8.length : Int) = s78 at *
 go_enter Tryz.func68, Tryz.ntmps68
 go_upto_region 1 with fail
 go_cut [3] (fun s3 wx => s3 = .bool A ∧ Cel wx w.heap.size [.int .i64 K, .int .i64 N, .slice ao xs.length cap, .slice so S.length sc, .slice tO T.length tc, .int .i64 N8, .int .i64 k8, .int .i64 V8, .int .i64 M8, .slice a8 x8.length e8, .int .i64 L8, .slice q8 y8.length d8, .slice s8 S8.length f8, .slice t8 T8.length g8, .int .i64 N9, .int .i64 M9, .int .i64 k9, .int .i64 V9, .int .i64 L9, .slice a9 x9.length e9, .int .i64 H9, .slice q9 y9.length d9] 36 ∧ Below w.heap.size w wx)
 case first =>
  have c1 := B0.cell 1 rfl
  have c2 := B0.cell 2 rfl
  have c3 := B0.cell 3 rfl
  have c4 := B0.cell 4 rfl
  cases hn : norw [(N, xs.length)] with
  | false =>
   rw [hn] at N1
   go_wp2_with fail
   refine (N1.out _).mono ?_
   rintro e w1 ⟨rfl, hb⟩
   replace B0 := B0.kept hb
   replace bw := bw.trans (hb.mono bw.size)
   clear hb c1 c2 c3 c4
   have c1 := B0.cell 1 rfl
   have c2 := B0.cell 2 rfl
   have c3 := B0.cell 3 rfl
   have c4 := B0.cell 4 rfl
   go_wp2_with fail
   go_meet
   refine ⟨?_, B0, bw⟩
   rw [EA.out]
   simp [hn]
  | true =>
   rw [hn] at N1
   by_cases q : s7 = 0
   ·have d : (s7 == 0) = true := by simp [q]
    go_wp2_with fail
    refine (N1.out _).mono ?_
    rintro e w1 ⟨rfl, hb⟩
    replace B0 := B0.kept hb
    replace bw := bw.trans (hb.mono bw.size)
    clear hb c1 c2 c3 c4
    have c1 := B0.cell 1 rfl
    have c2 := B0.cell 2 rfl
    have c3 := B0.cell 3 rfl
    have c4 := B0.cell 4 rfl
    go_wp2_with fail
    go_meet
    refine ⟨?_, B0, bw⟩
    rw [EA.out]
    simp [hn, q]
   ·have d : (s7 == 0) = false := by simp [q]
    go_wp2_with fail
    refine (N1.out _).mono ?_
    rintro e w1 ⟨rfl, hb⟩
    replace B0 := B0.kept hb
    replace bw := bw.trans (hb.mono bw.size)
    clear hb c1 c2 c3 c4
    have c1 := B0.cell 1 rfl
    have c2 := B0.cell 2 rfl
    have c3 := B0.cell 3 rfl
    have c4 := B0.cell 4 rfl
    go_wp2_with fail
    go_meet
    refine ⟨?_, B0, bw⟩
    rw [EA.out]
    simp [hn, q]
 case rest =>
 obtain ⟨rfl, B1, bw1⟩ := hcut
 clear N1 EA B0 bw wS hsum
 have B0 := B1
 have bw := bw1
 clear B1 bw1
 go_upto_region 2 with fail
 go_cut [4] (fun s4 wx => s4 = .bool B ∧ Cel wx w.heap.size [.int .i64 K, .int .i64 N, .slice ao xs.length cap, .slice so S.length sc, .slice tO T.length tc, .int .i64 N8, .int .i64 k8, .int .i64 V8, .int .i64 M8, .slice a8 x8.length e8, .int .i64 L8, .slice q8 y8.length d8, .slice s8 S8.length f8, .slice t8 T8.length g8, .int .i64 N9, .int .i64 M9, .int .i64 k9, .int .i64 V9, .int .i64 L9, .slice a9 x9.length e9, .int .i64 H9, .slice q9 y9.length d9] 36 ∧ Below w.heap.size w wx)
 case first =>
  have c5 := B0.cell 5 rfl
  have c6 := B0.cell 6 rfl
  have c7 := B0.cell 7 rfl
  have c8 := B0.cell 8 rfl
  have c9 := B0.cell 9 rfl
  have c10 := B0.cell 10 rfl
  have c11 := B0.cell 11 rfl
  have c12 := B0.cell 12 rfl
  have c13 := B0.cell 13 rfl
  by_cases q : N8 = 0
  rotate_left
  ·have d : (N8 == 0) = false := by simp [q]
   go_wp2_with fail
   go_meet
   refine ⟨?_, B0, bw⟩
   rw [EB.out]
   simp [q]
  subst q
  cases hn : nons k8 V8 M8 x8.length with
  | false =>
   rw [hn] at N2
   go_wp2_with fail
   refine (N2.out _).mono ?_
   rintro e w1 ⟨rfl, hb⟩
   replace B0 := B0.kept hb
   replace bw := bw.trans (hb.mono bw.size)
   clear hb c5 c6 c7 c8 c9 c10 c11 c12 c13
   have c5 := B0.cell 5 rfl
   have c6 := B0.cell 6 rfl
   have c7 := B0.cell 7 rfl
   have c8 := B0.cell 8 rfl
   have c9 := B0.cell 9 rfl
   have c10 := B0.cell 10 rfl
   have c11 := B0.cell 11 rfl
   have c12 := B0.cell 12 rfl
   have c13 := B0.cell 13 rfl
   go_wp2_with fail
   go_meet
   refine ⟨?_, B0, bw⟩
   rw [EB.out]
   simp [hn]
  | true =>
   rw [hn] at N2
   cases hm : norw [(L8, y8.length)] with
   | false =>
    rw [hm] at N3
    go_wp2_with fail
    refine (N2.out _).mono ?_
    rintro e w1 ⟨rfl, hb⟩
    replace B0 := B0.kept hb
    replace bw := bw.trans (hb.mono bw.size)
    clear hb c5 c6 c7 c8 c9 c10 c11 c12 c13
    have c5 := B0.cell 5 rfl
    have c6 := B0.cell 6 rfl
    have c7 := B0.cell 7 rfl
    have c8 := B0.cell 8 rfl
    have c9 := B0.cell 9 rfl
    have c10 := B0.cell 10 rfl
    have c11 := B0.cell 11 rfl
    have c12 := B0.cell 12 rfl
    have c13 := B0.cell 13 rfl
    go_wp2_with fail
    refine (N3.out _).mono ?_
    rintro e w2 ⟨rfl, hb⟩
    replace B0 := B0.kept hb
    replace bw := bw.trans (hb.mono bw.size)
    clear hb c5 c6 c7 c8 c9 c10 c11 c12 c13
    have c5 := B0.cell 5 rfl
    have c6 := B0.cell 6 rfl
    have c7 := B0.cell 7 rfl
    have c8 := B0.cell 8 rfl
    have c9 := B0.cell 9 rfl
    have c10 := B0.cell 10 rfl
    have c11 := B0.cell 11 rfl
    have c12 := B0.cell 12 rfl
    have c13 := B0.cell 13 rfl
    go_wp2_with fail
    go_meet
    refine ⟨?_, B0, bw⟩
    rw [EB.out]
    simp [hn, hm]
   | true =>
    rw [hm] at N3
    by_cases q : s78 = 0
    ·have d : (s78 == 0) = true := by simp [q]
     go_wp2_with fail
     refine (N2.out _).mono ?_
     rintro e w1 ⟨rfl, hb⟩
     replace B0 := B0.kept hb
     replace bw := bw.trans (hb.mono bw.size)
     clear hb c5 c6 c7 c8 c9 c10 c11 c12 c13
     have c5 := B0.cell 5 rfl
     have c6 := B0.cell 6 rfl
     have c7 := B0.cell 7 rfl
     have c8 := B0.cell 8 rfl
     have c9 := B0.cell 9 rfl
     have c10 := B0.cell 10 rfl
     have c11 := B0.cell 11 rfl
     have c12 := B0.cell 12 rfl
     have c13 := B0.cell 13 rfl
     go_wp2_with fail
     refine (N3.out _).mono ?_
     rintro e w2 ⟨rfl, hb⟩
     replace B0 := B0.kept hb
     replace bw := bw.trans (hb.mono bw.size)
     clear hb c5 c6 c7 c8 c9 c10 c11 c12 c13
     have c5 := B0.cell 5 rfl
     have c6 := B0.cell 6 rfl
     have c7 := B0.cell 7 rfl
     have c8 := B0.cell 8 rfl
     have c9 := B0.cell 9 rfl
     have c10 := B0.cell 10 rfl
     have c11 := B0.cell 11 rfl
     have c12 := B0.cell 12 rfl
     have c13 := B0.cell 13 rfl
     go_wp2_with fail
     go_meet
     refine ⟨?_, B0, bw⟩
     rw [EB.out]
     simp [hn, hm, q]
    ·have d : (s78 == 0) = false := by simp [q]
     go_wp2_with fail
     refine (N2.out _).mono ?_
     rintro e w1 ⟨rfl, hb⟩
     replace B0 := B0.kept hb
     replace bw := bw.trans (hb.mono bw.size)
     clear hb c5 c6 c7 c8 c9 c10 c11 c12 c13
     have c5 := B0.cell 5 rfl
     have c6 := B0.cell 6 rfl
     have c7 := B0.cell 7 rfl
     have c8 := B0.cell 8 rfl
     have c9 := B0.cell 9 rfl
     have c10 := B0.cell 10 rfl
     have c11 := B0.cell 11 rfl
     have c12 := B0.cell 12 rfl
     have c13 := B0.cell 13 rfl
     go_wp2_with fail
     refine (N3.out _).mono ?_
     rintro e w2 ⟨rfl, hb⟩
     replace B0 := B0.kept hb
     replace bw := bw.trans (hb.mono bw.size)
     clear hb c5 c6 c7 c8 c9 c10 c11 c12 c13
     have c5 := B0.cell 5 rfl
     have c6 := B0.cell 6 rfl
     have c7 := B0.cell 7 rfl
     have c8 := B0.cell 8 rfl
     have c9 := B0.cell 9 rfl
     have c10 := B0.cell 10 rfl
     have c11 := B0.cell 11 rfl
     have c12 := B0.cell 12 rfl
     have c13 := B0.cell 13 rfl
     go_wp2_with fail
     go_meet
     refine ⟨?_, B0, bw⟩
     rw [EB.out]
     simp [hn, hm, q]
 case rest =>
 obtain ⟨rfl, B1, bw1⟩ := hcut
 clear N2 N3 EB B0 bw wS8 hsum8
 have B0 := B1
 have bw := bw1
 clear B1 bw1
 go_upto_region 3 with fail
 go_cut [5] (fun s5 wx => s5 = .bool C ∧ Cel wx w.heap.size [.int .i64 K, .int .i64 N, .slice ao xs.length cap, .slice so S.length sc, .slice tO T.length tc, .int .i64 N8, .int .i64 k8, .int .i64 V8, .int .i64 M8, .slice a8 x8.length e8, .int .i64 L8, .slice q8 y8.length d8, .slice s8 S8.length f8, .slice t8 T8.length g8, .int .i64 N9, .int .i64 M9, .int .i64 k9, .int .i64 V9, .int .i64 L9, .slice a9 x9.length e9, .int .i64 H9, .slice q9 y9.length d9] 36 ∧ Below w.heap.size w wx)
 case first =>
  have c14 := B0.cell 14 rfl
  have c15 := B0.cell 15 rfl
  have c16 := B0.cell 16 rfl
  have c17 := B0.cell 17 rfl
  have c18 := B0.cell 18 rfl
  have c19 := B0.cell 19 rfl
  have c20 := B0.cell 20 rfl
  have c21 := B0.cell 21 rfl
  by_cases q : N9 = 0
  rotate_left
  ·have d : (N9 == 0) = false := by simp [q]
   go_wp2_with fail
   go_meet
   refine ⟨?_, B0, bw⟩
   rw [EC.out]
   simp [q]
  subst q
  by_cases q : M9 = 0
  rotate_left
  ·have d : (M9 == 0) = false := by simp [q]
   go_wp2_with fail
   go_meet
   refine ⟨?_, B0, bw⟩
   rw [EC.out]
   simp [q]
  subst q
  cases hn : nons k9 V9 L9 x9.length with
  | false =>
   rw [hn] at N4
   go_wp2_with fail
   refine (N4.out _).mono ?_
   rintro e w1 ⟨rfl, hb⟩
   replace B0 := B0.kept hb
   replace bw := bw.trans (hb.mono bw.size)
   clear hb c14 c15 c16 c17 c18 c19 c20 c21
   have c14 := B0.cell 14 rfl
   have c15 := B0.cell 15 rfl
   have c16 := B0.cell 16 rfl
   have c17 := B0.cell 17 rfl
   have c18 := B0.cell 18 rfl
   have c19 := B0.cell 19 rfl
   have c20 := B0.cell 20 rfl
   have c21 := B0.cell 21 rfl
   go_wp2_with fail
   go_meet
   refine ⟨?_, B0, bw⟩
   rw [EC.out]
   simp [hn]
  | true =>
   rw [hn] at N4
   go_wp2_with fail
   refine (N4.out _).mono ?_
   rintro e w1 ⟨rfl, hb⟩
   replace B0 := B0.kept hb
   replace bw := bw.trans (hb.mono bw.size)
   clear hb c14 c15 c16 c17 c18 c19 c20 c21
   have c14 := B0.cell 14 rfl
   have c15 := B0.cell 15 rfl
   have c16 := B0.cell 16 rfl
   have c17 := B0.cell 17 rfl
   have c18 := B0.cell 18 rfl
   have c19 := B0.cell 19 rfl
   have c20 := B0.cell 20 rfl
   have c21 := B0.cell 21 rfl
   go_wp2_with fail
   refine (N5.out _).mono ?_
   rintro e w2 ⟨rfl, hb⟩
   replace B0 := B0.kept hb
   replace bw := bw.trans (hb.mono bw.size)
   clear hb c14 c15 c16 c17 c18 c19 c20 c21
   have c14 := B0.cell 14 rfl
   have c15 := B0.cell 15 rfl
   have c16 := B0.cell 16 rfl
   have c17 := B0.cell 17 rfl
   have c18 := B0.cell 18 rfl
   have c19 := B0.cell 19 rfl
   have c20 := B0.cell 20 rfl
   have c21 := B0.cell 21 rfl
   generalize norw [(H9, y9.length)] = R at *
   go_wp2_with fail
   go_meet
   refine ⟨?_, B0, bw⟩
   rw [EC.out]
   simp [hn]
 case rest =>
 obtain ⟨rfl, B1, bw1⟩ := hcut
 clear N4 N5 EC B0 bw
 have c0 := B1.cell 0 rfl
 by_cases q1 : K = 1
 ·subst q1
  cases A <;> cases B <;> cases C <;> (go_wp2; go_ret; rw [hZ2.out]; exact ⟨rfl, bw1⟩)
 by_cases q2 : K = 2
 ·subst q2
  cases A <;> cases B <;> cases C <;> (go_wp2; go_ret; rw [hZ2.out]; exact ⟨rfl, bw1⟩)
 by_cases q3 : K = 3
 ·subst q3
  cases A <;> cases B <;> cases C <;> (go_wp2; go_ret; rw [hZ2.out]; exact ⟨rfl, bw1⟩)
 have d1 : (K == 1) = false := by simp [q1]
 have d2 : (K == 2) = false := by simp [q2]
 have d3 : (K == 3) = false := by simp [q3]
 rw [decide_eq_false q1, decide_eq_false q2, decide_eq_false q3] at hZ2
 cases A <;> cases B <;> cases C <;> (go_wp2; go_ret; rw [hZ2.out]; exact ⟨rfl, bw1⟩)
end Go.Proofs.YtcaalcjcpddhaaaGreat
namespace Go.Proofs.YtcaalcjcpddhaaaGreat
open Go.RowKit Num Bit
set_option maxHeartbeats 4000000 in
theorem v10whole_k (cs : List Value) (a : RA) (w : World) (h : KI w cs a) :
  Calls Tryz.prog 40 #[.agg cs.toArray] w fun e w' => ∃ bo bc, e = .returned (.tuple #[.agg #[.int .i64 (kBN a), .slice bo (kBX a).length bc], .bool (kOk a)]) ∧ Wd w' bo (kBX a) ∧ (kBX a).length ≤ bc ∧ Below w.heap.size w w' := by
 have ZE0 := fun (w0 : World) (hb : Below w.heap.size w w0) => zero_c cs a w0 (h.keep hb)
 have HL := Hid.mk8 h.arg.len
 have sm := h.sm
 have gv := h.gv
 replace h := h.arg
 obtain ⟨cp, cr, cf, rfl, hK, h1, h2, h3⟩ := h
 have l4 := Hid.mk8 h1.four
 have l9 := Hid.mk8 h2.nine
 have LP := Hid.mk8 h1.len
 have LR := Hid.mk8 h2.len
 have LF := Hid.mk8 h3.len
 obtain ⟨K, p, r, f⟩ := a
 dsimp only at *
 have k7 : KI7 w cp p := ⟨h1, sm.p1, sm.p2, sm.p3⟩
 have k8 : KI8 w cr r := ⟨h2, sm.r1, sm.r2, sm.r3, sm.r4, gv⟩
 have k9 : KI9 w cf f := ⟨h3, sm.f0, sm.f1, sm.f2⟩
 have ZE : Hid (∀ w0, Below w.heap.size w w0 → Calls Tryz.prog 68 #[.agg (Value.int .i64 K :: (cp ++ (cr ++ cf))).toArray] w0 fun e w' => e = .returned (.bool (kZs ⟨K, p, r, f⟩)) ∧ Below w0.heap.size w0 w') := ZE0
 clear ZE0 h1 h2 h3 sm gv
 have bw : Below w.heap.size w ((w.alloc (.cells (Value.int .i64 K :: (cp ++ (cr ++ cf))).toArray 36)).alloc (.cells #[.int .i64 0, .slice none 0 0] 24)) := (below_alloc w _).alloc (by simp) _
 have B0 : Cel ((w.alloc (.cells (Value.int .i64 K :: (cp ++ (cr ++ cf))).toArray 36)).alloc (.cells #[.int .i64 0, .slice none 0 0] 24)) w.heap.size (Value.int .i64 K :: (cp ++ (cr ++ cf))) 36 := (Cel.new w _ _).alloc _
 have B2 : Cel ((w.alloc (.cells (Value.int .i64 K :: (cp ++ (cr ++ cf))).toArray 36)).alloc (.cells #[.int .i64 0, .slice none 0 0] 24)) (w.heap.size + 1) [.int .i64 0, .slice none 0 0] 24 := Cel.new2 w _ _ _
 cases hz : kZs ⟨K, p, r, f⟩ with
 | false =>
  have o : kOn ⟨K, p, r, f⟩ = 0 := by unfold kOn; rw [hz]; rfl
  obtain ⟨e1, e2, e3, e4⟩ := on_n (a := ⟨K, p, r, f⟩) (by omega) (by omega) (by omega)
  rw [e1, e2, e3]
  rw [hz] at ZE
  clear e1 e2 e3 e4 o hz k7 k8 k9
  go_enter Tryz.func40, Tryz.ntmps40
  go_wp2_with (refine load_obj w.heap.size _ (by rfl) rfl B0 Tryz.underlying36 HL.out ?_)
  refine (ZE.out _ bw).mono ?_
  rintro e w1 ⟨rfl, hb⟩
  replace B0 := B0.kept hb
  replace B2 := B2.kept hb
  replace bw := bw.trans (hb.mono bw.size)
  clear hb
  obtain ⟨c0, p1, p2, p3⟩ := parts l4.out l9.out B0
  go_wp2_with (refine store_cel (w.heap.size + 1) _ [.int .i64 0, .slice none 0 0] rfl rfl B2 rfl info_bv (by simp [Value.oneCell']) ?_)
  intro w3 B3 O3
  have HZ : Hid (Cel w3 (w.heap.size + 1) [.int .i64 0, .slice none 0 0] 24 ∧ Below w.heap.size w w3) := ⟨B3, bw.trans (O3.below (Nat.le_succ _))⟩
  clear B3 O3 B2 B0 c0 p1 p2 p3
  go_wp2
  (try simp only [Exit.inBlock, Exit.then])
  exact bodyPost_ret (result_cel rfl (w.heap.size + 1) _ rfl HZ.out.1 Tryz.underlying24 info_bv) rfl ⟨none, 0, rfl, wd0' _ _, Nat.le_refl _, HZ.out.2⟩
 | true =>
  have o : kOn ⟨K, p, r, f⟩ = K := by unfold kOn; rw [hz]; rfl
  rw [hz] at ZE
  clear hz
  by_cases q7 : K = 1
  ·subst q7
   obtain ⟨e1, e2, e3, e4⟩ := on_p o
   rw [e1, e2, e3]
   have C : Hid (∀ w0, Below w.heap.size w w0 → Calls Tryz.prog 69 #[.agg cp.toArray] w0 fun e w' => ∃ bo bc, e = .returned (.tuple #[.agg #[.int .i64 (kBN7 p), .slice bo (kBX7 p).length bc], .bool (kOk7 p)]) ∧ Wd w' bo (kBX7 p) ∧ (kBX7 p).length ≤ bc ∧ Below w0.heap.size w0 w') := fun w0 g => p7whole_k cp p w0 (k7.keep g)
   clear e1 e2 e3 e4 k7 k8 k9 o
   generalize kBN7 p = N at *
   generalize kBX7 p = X at *
   generalize kOk7 p = ok at *
   go_enter Tryz.func40, Tryz.ntmps40
   go_wp2_with (refine load_obj w.heap.size _ (by rfl) rfl B0 Tryz.underlying36 HL.out ?_)
   refine (ZE.out _ bw).mono ?_
   rintro e w1 ⟨rfl, hb⟩
   replace B0 := B0.kept hb
   replace B2 := B2.kept hb
   replace bw := bw.trans (hb.mono bw.size)
   clear hb
   obtain ⟨c0, p1, p2, p3⟩ := parts l4.out l9.out B0
   go_wp2_with (refine load_part w.heap.size 1 cp (by rfl) rfl p1 Tryz.underlying28 LP.out ?_)
   refine (C.out _ bw).mono ?_
   rintro e w2 ⟨bo, bc, rfl, hx, hbc, hb⟩
   replace bw := bw.trans (hb.mono bw.size)
   replace B2 := B2.kept hb
   clear hb C ZE B0 c0 p1 p2 p3
   have hne := hx.apart B2 (by intro v hv n; simp at hv; rcases hv with rfl | rfl <;> simp)
   go_wp2_with (refine store_cel (w.heap.size + 1) _ [.int .i64 N, .slice bo X.length bc] rfl rfl B2 rfl info_bv (by simp [Value.oneCell']) ?_)
   intro w3 B3 O3
   have HZ : Hid (Cel w3 (w.heap.size + 1) [.int .i64 N, .slice bo X.length bc] 24 ∧ Wd w3 bo X ∧ Below w.heap.size w w3) := ⟨B3, O3.wd hx hne, bw.trans (O3.below (Nat.le_succ _))⟩
   clear B3 O3 B2 hx hne
   go_wp2
   (try simp only [Exit.inBlock, Exit.then])
   exact bodyPost_ret (result_cel rfl (w.heap.size + 1) _ rfl HZ.out.1 Tryz.underlying24 info_bv) rfl ⟨bo, bc, rfl, HZ.out.2.1, hbc, HZ.out.2.2⟩
  by_cases q8 : K = 2
  ·subst q8
   obtain ⟨e1, e2, e3, e4⟩ := on_r o
   rw [e1, e2, e3]
   have C : Hid (∀ w0, Below w.heap.size w w0 → Calls Tryz.prog 70 #[.agg cr.toArray] w0 fun e w' => ∃ bo bc, e = .returned (.tuple #[.agg #[.int .i64 (kBN8 r), .slice bo (kBX8 r).length bc], .bool (kOk8 r)]) ∧ Wd w' bo (kBX8 r) ∧ (kBX8 r).length ≤ bc ∧ Below w0.heap.size w0 w') := fun w0 g => r8whole_k cr r w0 (k8.keep g)
   clear e1 e2 e3 e4 k7 k8 k9 o
   generalize kBN8 r = N at *
   generalize kBX8 r = X at *
   generalize kOk8 r = ok at *
   go_enter Tryz.func40, Tryz.ntmps40
   go_wp2_with (refine load_obj w.heap.size _ (by rfl) rfl B0 Tryz.underlying36 HL.out ?_)
   refine (ZE.out _ bw).mono ?_
   rintro e w1 ⟨rfl, hb⟩
   replace B0 := B0.kept hb
   replace B2 := B2.kept hb
   replace bw := bw.trans (hb.mono bw.size)
   clear hb
   obtain ⟨c0, p1, p2, p3⟩ := parts l4.out l9.out B0
   go_wp2_with (refine load_part w.heap.size 5 cr (by rfl) rfl p2 Tryz.underlying32 LR.out ?_)
   refine (C.out _ bw).mono ?_
   rintro e w2 ⟨bo, bc, rfl, hx, hbc, hb⟩
   replace bw := bw.trans (hb.mono bw.size)
   replace B2 := B2.kept hb
   clear hb C ZE B0 c0 p1 p2 p3
   have hne := hx.apart B2 (by intro v hv n; simp at hv; rcases hv with rfl | rfl <;> simp)
   go_wp2_with (refine store_cel (w.heap.size + 1) _ [.int .i64 N, .slice bo X.length bc] rfl rfl B2 rfl info_bv (by simp [Value.oneCell']) ?_)
   intro w3 B3 O3
   have HZ : Hid (Cel w3 (w.heap.size + 1) [.int .i64 N, .slice bo X.length bc] 24 ∧ Wd w3 bo X ∧ Below w.heap.size w w3) := ⟨B3, O3.wd hx hne, bw.trans (O3.below (Nat.le_succ _))⟩
   clear B3 O3 B2 hx hne
   go_wp2
   (try simp only [Exit.inBlock, Exit.then])
   exact bodyPost_ret (result_cel rfl (w.heap.size + 1) _ rfl HZ.out.1 Tryz.underlying24 info_bv) rfl ⟨bo, bc, rfl, HZ.out.2.1, hbc, HZ.out.2.2⟩
  by_cases q9 : K = 3
  ·subst q9
   obtain ⟨e1, e2, e3, e4⟩ := on_f o
   rw [e1, e2, e3]
   have C : Hid (∀ w0, Below w.heap.size w w0 → Calls Tryz.prog 71 #[.agg cf.toArray] w0 fun e w' => ∃ bo bc, e = .returned (.tuple #[.agg #[.int .i64 (kBN9 f), .slice bo (kBX9 f).length bc], .bool (kOk9 f)]) ∧ Wd w' bo (kBX9 f) ∧ (kBX9 f).length ≤ bc ∧ Below w0.heap.size w0 w') := fun w0 g => f9whole_k cf f w0 (k9.keep g)
   clear e1 e2 e3 e4 k7 k8 k9 o
   generalize kBN9 f = N at *
   generalize kBX9 f = X at *
   generalize kOk9 f = ok at *
   go_enter Tryz.func40, Tryz.ntmps40
   go_wp2_with (refine load_obj w.heap.size _ (by rfl) rfl B0 Tryz.underlying36 HL.out ?_)
   refine (ZE.out _ bw).mono ?_
   rintro e w1 ⟨rfl, hb⟩
   replace B0 := B0.kept hb
   replace B2 := B2.kept hb
   replace bw := bw.trans (hb.mono bw.size)
   clear hb
   obtain ⟨c0, p1, p2, p3⟩ := parts l4.out l9.out B0
   go_wp2_with (refine load_part w.heap.size 14 cf (by rfl) rfl p3 Tryz.underlying34 LF.out ?_)
   refine (C.out _ bw).mono ?_
   rintro e w2 ⟨bo, bc, rfl, hx, hbc, hb⟩
   replace bw := bw.trans (hb.mono bw.size)
   replace B2 := B2.kept hb
   clear hb C ZE B0 c0 p1 p2 p3
   have hne := hx.apart B2 (by intro v hv n; simp at hv; rcases hv with rfl | rfl <;> simp)
   go_wp2_with (refine store_cel (w.heap.size + 1) _ [.int .i64 N, .slice bo X.length bc] rfl rfl B2 rfl info_bv (by simp [Value.oneCell']) ?_)
   intro w3 B3 O3
   have HZ : Hid (Cel w3 (w.heap.size + 1) [.int .i64 N, .slice bo X.length bc] 24 ∧ Wd w3 bo X ∧ Below w.heap.size w w3) := ⟨B3, O3.wd hx hne, bw.trans (O3.below (Nat.le_succ _))⟩
   clear B3 O3 B2 hx hne
   go_wp2
   (try simp only [Exit.inBlock, Exit.then])
   exact bodyPost_ret (result_cel rfl (w.heap.size + 1) _ rfl HZ.out.1 Tryz.underlying24 info_bv) rfl ⟨bo, bc, rfl, HZ.out.2.1, hbc, HZ.out.2.2⟩
  obtain ⟨e1, e2, e3, e4⟩ := on_n (a := ⟨K, p, r, f⟩) (by rw [o]; exact q7) (by rw [o]; exact q8) (by rw [o]; exact q9)
  rw [e1, e2, e3]
  have d7 : (K == 1) = false := by simp [q7]
  have d8 : (K == 2) = false := by simp [q8]
  have d9 : (K == 3) = false := by simp [q9]
  clear e1 e2 e3 e4 o k7 k8 k9
  go_enter Tryz.func40, Tryz.ntmps40
  go_wp2_with (refine load_obj w.heap.size _ (by rfl) rfl B0 Tryz.underlying36 HL.out ?_)
  refine (ZE.out _ bw).mono ?_
  rintro e w1 ⟨rfl, hb⟩
  replace B0 := B0.kept hb
  replace B2 := B2.kept hb
  replace bw := bw.trans (hb.mono bw.size)
  clear hb
  obtain ⟨c0, p1, p2, p3⟩ := parts l4.out l9.out B0
  go_wp2_with (refine store_cel (w.heap.size + 1) _ [.int .i64 0, .slice none 0 0] rfl rfl B2 rfl info_bv (by simp [Value.oneCell']) ?_)
  intro w3 B3 O3
  have HZ : Hid (Cel w3 (w.heap.size + 1) [.int .i64 0, .slice none 0 0] 24 ∧ Below w.heap.size w w3) := ⟨B3, bw.trans (O3.below (Nat.le_succ _))⟩
  clear B3 O3 B2 B0 c0 p1 p2 p3
  go_wp2
  (try simp only [Exit.inBlock, Exit.then])
  exact bodyPost_ret (result_cel rfl (w.heap.size + 1) _ rfl HZ.out.1 Tryz.underlying24 info_bv) rfl ⟨none, 0, rfl, wd0' _ _, Nat.le_refl _, HZ.out.2⟩
end Go.Proofs.YtcaalcjcpddhaaaGreat
namespace Go.Proofs.YtcaalcjcpddhaaaGreat
open Go.RowKit Num Bit
set_option maxHeartbeats 2000000 in
theorem v10check_g (cs : List Value) (IL : Hid ((Tryz.prog.info? 36).map (·.size) = some cs.length)) (ok : Bool) (N : Int) (X : List Nat) (w : World) (hf : Fit X) (hck : ok = true → chk N X = true) (C1 : Hid (∀ w0, Below w.heap.size w w0 → Calls Tryz.prog 40 #[.agg cs.toArray] w0 fun e w' => ∃ bo bc, e = .returned (.tuple #[.agg #[.int .i64 N, .slice bo X.length bc], .bool ok]) ∧ Wd w' bo X ∧ X.length ≤ bc ∧ Below w0.heap.size w0 w')) :
  Calls Tryz.prog 15 #[.agg cs.toArray] w fun e w' => e = .returned (.bool ok) ∧ Below w.heap.size w w' := by
 have bW : Below w.heap.size w (w.alloc (.cells cs.toArray 36)) := below_alloc w _
 have BX := Cel.new w cs 36
 go_enter Tryz.func15, Tryz.ntmps15
 go_wp2_with (refine load_obj w.heap.size cs (by rfl) rfl BX Tryz.underlying36 IL.out ?_)
 refine (C1.out _ bW).mono ?_
 rintro e w1 ⟨bo, bc, rfl, hx, hbc, hb⟩
 have bw1 := bW.trans (hb.mono bW.size)
 clear hb C1 BX
 have bA := below_alloc w1 (.cells #[.int .i64 N, .slice bo X.length bc] 24)
 have bw2 := bw1.trans (bA.mono bw1.size)
 go_wp2
 go_ret
 exact ⟨rfl, bw2⟩
end Go.Proofs.YtcaalcjcpddhaaaGreat
namespace Go.Proofs.YtcaalcjcpddhaaaGreat
open Go.RowKit Num Bit
theorem KI.fit {w : World} {cs : List Value} {a : RA} (h : KI w cs a) : Fit (kBX a) := by
 by_cases h1 : kOn a = 1
 ·rw [(on_p h1).2.2.1]
  obtain ⟨⟨cp, cr, cf, _, _, ⟨ao, cap, so, sc, tO, tc, _, h⟩, _⟩, _⟩ := h
  exact pi_fit a.p.N a.p.xs a.p.S a.p.T h.f
 by_cases h2 : kOn a = 2
 ·rw [(on_r h2).2.2.1]
  exact kB_fit8 _
 by_cases h3 : kOn a = 3
 ·rw [(on_f h3).2.2.1]
  exact kB_fit9 _
 rw [(on_n h1 h2 h3).2.2.1]
 exact fit_nil
theorem v10check_k (cs : List Value) (a : RA) (w : World) (h : KI w cs a) :
  Calls Tryz.prog 15 #[.agg cs.toArray] w fun e w' => e = .returned (.bool (kOk a)) ∧ Below w.heap.size w w' :=
 v10check_g cs (Hid.mk8 h.arg.len) (kOk a) (kBN a) (kBX a) w h.fit (kB_chk a) (fun w0 hb => v10whole_k cs a w0 (h.keep hb))
theorem kZ_bad (a : RA) (h : kOk a = false) : kZ a = 0 := by
 by_cases h1 : kOn a = 1
 ·obtain ⟨e1, _, _, e4⟩ := on_p h1
  rw [e4]
  unfold kZ7 pzN
  rw [show pchk a.p.N a.p.xs a.p.S a.p.T = false from e1.symm.trans h]
  rfl
 by_cases h2 : kOn a = 2
 ·obtain ⟨e1, _, _, e4⟩ := on_r h2
  rw [e4]
  unfold kZ8 rzN
  rw [show rOk a.r.N a.r.k a.r.V a.r.M a.r.xs a.r.L a.r.ys a.r.S a.r.T = false from e1.symm.trans h]
  rfl
 by_cases h3 : kOn a = 3
 ·obtain ⟨e1, _, _, e4⟩ := on_f h3
  rw [e4]
  unfold kZ9
  rw [if_neg (by rw [← e1, h]; decide)]
 exact (on_n h1 h2 h3).2.2.2
set_option maxHeartbeats 4000000 in
theorem v10size_k (cs : List Value) (a : RA) (w : World) (h : KI w cs a) :
  Calls Tryz.prog 6 #[.agg cs.toArray] w fun e w' => e = .returned (.int .i64 (kZ a)) ∧ Below w.heap.size w w' := by
 have CH0 := fun (w0 : World) (hb : Below w.heap.size w w0) => v10check_k cs a w0 (h.keep hb)
 have HL := Hid.mk8 h.arg.len
 have sm := h.sm
 have gv := h.gv
 replace h := h.arg
 obtain ⟨cp, cr, cf, rfl, hK, h1, h2, h3⟩ := h
 have l4 := Hid.mk8 h1.four
 have l9 := Hid.mk8 h2.nine
 have LP := Hid.mk8 h1.len
 have LR := Hid.mk8 h2.len
 have LF := Hid.mk8 h3.len
 obtain ⟨K, p, r, f⟩ := a
 dsimp only at *
 have k7 : KI7 w cp p := ⟨h1, sm.p1, sm.p2, sm.p3⟩
 have k8 : KI8 w cr r := ⟨h2, sm.r1, sm.r2, sm.r3, sm.r4, gv⟩
 have k9 : KI9 w cf f := ⟨h3, sm.f0, sm.f1, sm.f2⟩
 have CH : Hid (∀ w0, Below w.heap.size w w0 → Calls Tryz.prog 15 #[.agg (Value.int .i64 K :: (cp ++ (cr ++ cf))).toArray] w0 fun e w' => e = .returned (.bool (kOk ⟨K, p, r, f⟩)) ∧ Below w0.heap.size w0 w') := CH0
 clear CH0 h1 h2 h3 sm gv
 have bw : Below w.heap.size w (w.alloc (.cells (Value.int .i64 K :: (cp ++ (cr ++ cf))).toArray 36)) := below_alloc w _
 have B0 : Cel (w.alloc (.cells (Value.int .i64 K :: (cp ++ (cr ++ cf))).toArray 36)) w.heap.size (Value.int .i64 K :: (cp ++ (cr ++ cf))) 36 := Cel.new w _ _
 cases hk : kOk ⟨K, p, r, f⟩ with
 | false =>
  rw [kZ_bad _ hk]
  rw [hk] at CH
  clear hk k7 k8 k9
  go_enter Tryz.func6, Tryz.ntmps6
  go_wp2_with (refine load_obj w.heap.size _ (by rfl) rfl B0 Tryz.underlying36 HL.out ?_)
  refine (CH.out _ bw).mono ?_
  rintro e w1 ⟨rfl, hb⟩
  replace B0 := B0.kept hb
  replace bw := bw.trans (hb.mono bw.size)
  clear hb
  obtain ⟨c0, p1, p2, p3⟩ := parts l4.out l9.out B0
  go_wp2
  go_ret
  exact ⟨rfl, bw⟩
 | true =>
  have o : kOn ⟨K, p, r, f⟩ = K ∧ (K = 1 ∨ K = 2 ∨ K = 3) := by
   have e : kOn ⟨K, p, r, f⟩ = K ∨ kOn ⟨K, p, r, f⟩ = 0 := by unfold kOn; split <;> simp
   by_cases o1 : kOn ⟨K, p, r, f⟩ = 1
   ·exact ⟨by omega, by omega⟩
   by_cases o2 : kOn ⟨K, p, r, f⟩ = 2
   ·exact ⟨by omega, by omega⟩
   by_cases o3 : kOn ⟨K, p, r, f⟩ = 3
   ·exact ⟨by omega, by omega⟩
   rw [(on_n o1 o2 o3).1] at hk
   cases hk
  rw [hk] at CH
  clear hk
  obtain ⟨o, q⟩ := o
  rcases q with rfl | rfl | rfl
  ·obtain ⟨e1, e2, e3, e4⟩ := on_p o
   rw [e4]
   have C : Hid (∀ w0, Below w.heap.size w w0 → Calls Tryz.prog 16 #[.agg cp.toArray] w0 fun e w' => e = .returned (.int .i64 (kZ7 p)) ∧ Below w0.heap.size w0 w') := fun w0 g => p7size_k cp p w0 (k7.keep g)
   clear e1 e2 e3 e4 k7 k8 k9 o
   generalize kZ7 p = Z at *
   go_enter Tryz.func6, Tryz.ntmps6
   go_wp2_with (refine load_obj w.heap.size _ (by rfl) rfl B0 Tryz.underlying36 HL.out ?_)
   refine (CH.out _ bw).mono ?_
   rintro e w1 ⟨rfl, hb⟩
   replace B0 := B0.kept hb
   replace bw := bw.trans (hb.mono bw.size)
   clear hb
   obtain ⟨c0, p1, p2, p3⟩ := parts l4.out l9.out B0
   go_wp2_with (refine load_part w.heap.size 1 cp (by rfl) rfl p1 Tryz.underlying28 LP.out ?_)
   refine (C.out _ bw).mono ?_
   rintro e w2 ⟨rfl, hb⟩
   replace bw := bw.trans (hb.mono bw.size)
   go_wp2
   go_ret
   exact ⟨rfl, bw⟩
  ·obtain ⟨e1, e2, e3, e4⟩ := on_r o
   rw [e4]
   have C : Hid (∀ w0, Below w.heap.size w w0 → Calls Tryz.prog 17 #[.agg cr.toArray] w0 fun e w' => e = .returned (.int .i64 (kZ8 r)) ∧ Below w0.heap.size w0 w') := fun w0 g => r8size_k cr r w0 (k8.keep g)
   clear e1 e2 e3 e4 k7 k8 k9 o
   generalize kZ8 r = Z at *
   go_enter Tryz.func6, Tryz.ntmps6
   go_wp2_with (refine load_obj w.heap.size _ (by rfl) rfl B0 Tryz.underlying36 HL.out ?_)
   refine (CH.out _ bw).mono ?_
   rintro e w1 ⟨rfl, hb⟩
   replace B0 := B0.kept hb
   replace bw := bw.trans (hb.mono bw.size)
   clear hb
   obtain ⟨c0, p1, p2, p3⟩ := parts l4.out l9.out B0
   go_wp2_with (refine load_part w.heap.size 5 cr (by rfl) rfl p2 Tryz.underlying32 LR.out ?_)
   refine (C.out _ bw).mono ?_
   rintro e w2 ⟨rfl, hb⟩
   replace bw := bw.trans (hb.mono bw.size)
   go_wp2
   go_ret
   exact ⟨rfl, bw⟩
  ·obtain ⟨e1, e2, e3, e4⟩ := on_f o
   rw [e4]
   have C : Hid (∀ w0, Below w.heap.size w w0 → Calls Tryz.prog 18 #[.agg cf.toArray] w0 fun e w' => e = .returned (.int .i64 (kZ9 f)) ∧ Below w0.heap.size w0 w') := fun w0 g => f9size_k cf f w0 (k9.keep g)
   clear e1 e2 e3 e4 k7 k8 k9 o
   generalize kZ9 f = Z at *
   go_enter Tryz.func6, Tryz.ntmps6
   go_wp2_with (refine load_obj w.heap.size _ (by rfl) rfl B0 Tryz.underlying36 HL.out ?_)
   refine (CH.out _ bw).mono ?_
   rintro e w1 ⟨rfl, hb⟩
   replace B0 := B0.kept hb
   replace bw := bw.trans (hb.mono bw.size)
   clear hb
   obtain ⟨c0, p1, p2, p3⟩ := parts l4.out l9.out B0
   go_wp2_with (refine load_part w.heap.size 14 cf (by rfl) rfl p3 Tryz.underlying34 LF.out ?_)
   refine (C.out _ bw).mono ?_
   rintro e w2 ⟨rfl, hb⟩
   replace bw := bw.trans (hb.mono bw.size)
   go_wp2
   go_ret
   exact ⟨rfl, bw⟩
end Go.Proofs.YtcaalcjcpddhaaaGreat
