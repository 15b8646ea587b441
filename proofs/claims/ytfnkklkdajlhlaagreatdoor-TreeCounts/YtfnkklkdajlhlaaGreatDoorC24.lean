/-
  The contracts of the program's Check, Size, Access, Rank and Select. What stays of a row of a kind where one other block is written; a part of a struct into its block. The contract of the program's Build.
-/
import Derived.Test.YtfnkklkdajlhlaaGreatDoorC13
import Derived.Test.YtfnkklkdajlhlaaGreatDoorC16
import Derived.Test.YtfnkklkdajlhlaaGreatDoorC23
import Derived.Test.YtfnkklkdajlhlaaGreatDoorC10
set_option linter.unusedVariables false
set_option linter.unusedSimpArgs false
set_option maxRecDepth 100000
set_option maxHeartbeats 16000000
namespace Go.Proofs.YtfnkklkdajlhlaaGreatDoor
open Go.RowKit Num Bit
theorem check_r (cs : List Value) (a : RA) (w : World) (h : KI w cs a) (o8 : kOn a = 2) :
  Calls Tryz.prog 47 #[.agg cs.toArray] w fun e w' => e = .returned (.bool (kOk a)) ∧ Below w.heap.size w w' := by
 have ON0 := fun (w0 : World) (hb : Below w.heap.size w w0) => only_c cs a w0 (h.arg.keep hb)
 have HL := Hid.mk8 h.arg.len
 have sm := h.sm
 have gv := h.gv
 replace h := h.arg
 obtain ⟨cp, cr, cf, rfl, hK, h1, h2, h3⟩ := h
 have l4 := Hid.mk8 h1.four
 have l9 := Hid.mk8 h2.nine
 have LP := Hid.mk8 h1.len
 have LR := Hid.mk8 h2.len
 have LF := Hid.mk8 h3.len
 obtain ⟨K, p, r, f⟩ := a
 dsimp only at *
 have k7 : KI7 w cp p := ⟨h1, sm.p1, sm.p2, sm.p3⟩
 have k8 : KI8 w cr r := ⟨h2, sm.r1, sm.r2, sm.r3, sm.r4, gv⟩
 have k9 : KI9 w cf f := ⟨h3, sm.f0, sm.f1, sm.f2⟩
 have ON : Hid (∀ w0, Below w.heap.size w w0 → Calls Tryz.prog 62 #[.agg (Value.int .i64 K :: (cp ++ (cr ++ cf))).toArray] w0 fun e w' => e = .returned (.int .i64 (kOn ⟨K, p, r, f⟩)) ∧ Below w0.heap.size w0 w') := ON0
 clear ON0 h1 h2 h3 sm gv
 obtain ⟨W, hW⟩ : ∃ W, W = w.alloc (.cells (Value.int .i64 K :: (cp ++ (cr ++ cf))).toArray 45) := ⟨_, rfl⟩
 have bw : Below w.heap.size w W := by rw [hW]; exact below_alloc w _
 have B0 := yc1 hW
 subst hW
 obtain ⟨e1, e2, e3, e4⟩ := on_r o8
 rw [e1]
 rw [o8] at ON
 have C : Hid (∀ w0, Below w.heap.size w w0 → Calls Tryz.prog 85 #[.agg cr.toArray] w0 fun e w' => e = .returned (.bool (kOk8 r)) ∧ Below w0.heap.size w0 w') := fun w0 g => check_k8 cr r w0 (k8.keep g)
 clear e1 e2 e3 e4 k7 k8 k9
 generalize kOk8 r = P0 at *
 go_enter Tryz.func47, Tryz.ntmps47
 go_wp2_with (refine load_obj w.heap.size _ (by rfl) rfl B0 Tryz.underlying45 HL.out ?_)
 refine (ON.out _ bw).mono ?_
 rintro e w1 ⟨rfl, hb⟩
 replace B0 := B0.kept hb
 replace bw := bw.trans (hb.mono bw.size)
 clear hb
 obtain ⟨c0, p1, p2, p3⟩ := parts l4.out l9.out B0
 go_wp2_with (refine load_part w.heap.size 5 cr (by rfl) rfl p2 Tryz.underlying41 LR.out ?_)
 refine (C.out _ bw).mono ?_
 rintro e w2 ⟨rfl, hb⟩
 replace bw := bw.trans (hb.mono bw.size)
 go_wp2
 go_ret
 exact ⟨rfl, bw⟩
theorem check_k (cs : List Value) (a : RA) (w : World) (h : KI w cs a) :
  Calls Tryz.prog 47 #[.agg cs.toArray] w fun e w' => e = .returned (.bool (kOk a)) ∧ Below w.heap.size w w' := by
 by_cases o8 : kOn a = 2
 ·exact check_r cs a w h o8
 have ON0 := fun (w0 : World) (hb : Below w.heap.size w w0) => only_c cs a w0 (h.arg.keep hb)
 have HL := Hid.mk8 h.arg.len
 have sm := h.sm
 have gv := h.gv
 replace h := h.arg
 obtain ⟨cp, cr, cf, rfl, hK, h1, h2, h3⟩ := h
 have l4 := Hid.mk8 h1.four
 have l9 := Hid.mk8 h2.nine
 have LP := Hid.mk8 h1.len
 have LR := Hid.mk8 h2.len
 have LF := Hid.mk8 h3.len
 obtain ⟨K, p, r, f⟩ := a
 dsimp only at *
 have k7 : KI7 w cp p := ⟨h1, sm.p1, sm.p2, sm.p3⟩
 have k8 : KI8 w cr r := ⟨h2, sm.r1, sm.r2, sm.r3, sm.r4, gv⟩
 have k9 : KI9 w cf f := ⟨h3, sm.f0, sm.f1, sm.f2⟩
 have ON : Hid (∀ w0, Below w.heap.size w w0 → Calls Tryz.prog 62 #[.agg (Value.int .i64 K :: (cp ++ (cr ++ cf))).toArray] w0 fun e w' => e = .returned (.int .i64 (kOn ⟨K, p, r, f⟩)) ∧ Below w0.heap.size w0 w') := ON0
 clear ON0 h1 h2 h3 sm gv
 obtain ⟨W, hW⟩ : ∃ W, W = w.alloc (.cells (Value.int .i64 K :: (cp ++ (cr ++ cf))).toArray 45) := ⟨_, rfl⟩
 have bw : Below w.heap.size w W := by rw [hW]; exact below_alloc w _
 have B0 := yc1 hW
 subst hW
 by_cases o7 : kOn ⟨K, p, r, f⟩ = 1
 ·skip
  obtain ⟨e1, e2, e3, e4⟩ := on_p o7
  rw [e1]
  rw [o7] at ON
  have C : Hid (∀ w0, Below w.heap.size w w0 → Calls Tryz.prog 84 #[.agg cp.toArray] w0 fun e w' => e = .returned (.bool (kOk7 p)) ∧ Below w0.heap.size w0 w') := fun w0 g => check_k7 cp p w0 (k7.keep g)
  clear e1 e2 e3 e4 k7 k8 k9
  generalize kOk7 p = P0 at *
  go_enter Tryz.func47, Tryz.ntmps47
  go_wp2_with (refine load_obj w.heap.size _ (by rfl) rfl B0 Tryz.underlying45 HL.out ?_)
  refine (ON.out _ bw).mono ?_
  rintro e w1 ⟨rfl, hb⟩
  replace B0 := B0.kept hb
  replace bw := bw.trans (hb.mono bw.size)
  clear hb
  obtain ⟨c0, p1, p2, p3⟩ := parts l4.out l9.out B0
  go_wp2_with (refine load_part w.heap.size 1 cp (by rfl) rfl p1 Tryz.underlying37 LP.out ?_)
  refine (C.out _ bw).mono ?_
  rintro e w2 ⟨rfl, hb⟩
  replace bw := bw.trans (hb.mono bw.size)
  go_wp2
  go_ret
  exact ⟨rfl, bw⟩
 by_cases o9 : kOn ⟨K, p, r, f⟩ = 3
 ·skip
  obtain ⟨e1, e2, e3, e4⟩ := on_f o9
  rw [e1]
  rw [o9] at ON
  have C : Hid (∀ w0, Below w.heap.size w w0 → Calls Tryz.prog 86 #[.agg cf.toArray] w0 fun e w' => e = .returned (.bool (kOk9 f)) ∧ Below w0.heap.size w0 w') := fun w0 g => check_k9 cf f w0 (k9.keep g)
  clear e1 e2 e3 e4 k7 k8 k9
  generalize kOk9 f = P0 at *
  go_enter Tryz.func47, Tryz.ntmps47
  go_wp2_with (refine load_obj w.heap.size _ (by rfl) rfl B0 Tryz.underlying45 HL.out ?_)
  refine (ON.out _ bw).mono ?_
  rintro e w1 ⟨rfl, hb⟩
  replace B0 := B0.kept hb
  replace bw := bw.trans (hb.mono bw.size)
  clear hb
  obtain ⟨c0, p1, p2, p3⟩ := parts l4.out l9.out B0
  go_wp2_with (refine load_part w.heap.size 14 cf (by rfl) rfl p3 Tryz.underlying43 LF.out ?_)
  refine (C.out _ bw).mono ?_
  rintro e w2 ⟨rfl, hb⟩
  replace bw := bw.trans (hb.mono bw.size)
  go_wp2
  go_ret
  exact ⟨rfl, bw⟩
 obtain ⟨e1, e2, e3, e4⟩ := on_n o7 o8 o9
 rw [e1]
 have d7 : (kOn ⟨K, p, r, f⟩ == 1) = false := by simp [o7]
 have d8 : (kOn ⟨K, p, r, f⟩ == 2) = false := by simp [o8]
 have d9 : (kOn ⟨K, p, r, f⟩ == 3) = false := by simp [o9]
 clear e1 e2 e3 e4 k7 k8 k9
 generalize kOn ⟨K, p, r, f⟩ = O at *
 go_enter Tryz.func47, Tryz.ntmps47
 go_wp2_with (refine load_obj w.heap.size _ (by rfl) rfl B0 Tryz.underlying45 HL.out ?_)
 refine (ON.out _ bw).mono ?_
 rintro e w1 ⟨rfl, hb⟩
 replace B0 := B0.kept hb
 replace bw := bw.trans (hb.mono bw.size)
 go_wp2
 go_ret
 exact ⟨rfl, bw⟩
theorem size_r (cs : List Value) (a : RA) (w : World) (h : KI w cs a) (o8 : kOn a = 2) :
  Calls Tryz.prog 42 #[.agg cs.toArray] w fun e w' => e = .returned (.int .i64 (kZ a)) ∧ Below w.heap.size w w' := by
 have ON0 := fun (w0 : World) (hb : Below w.heap.size w w0) => only_c cs a w0 (h.arg.keep hb)
 have HL := Hid.mk8 h.arg.len
 have sm := h.sm
 have gv := h.gv
 replace h := h.arg
 obtain ⟨cp, cr, cf, rfl, hK, h1, h2, h3⟩ := h
 have l4 := Hid.mk8 h1.four
 have l9 := Hid.mk8 h2.nine
 have LP := Hid.mk8 h1.len
 have LR := Hid.mk8 h2.len
 have LF := Hid.mk8 h3.len
 obtain ⟨K, p, r, f⟩ := a
 dsimp only at *
 have k7 : KI7 w cp p := ⟨h1, sm.p1, sm.p2, sm.p3⟩
 have k8 : KI8 w cr r := ⟨h2, sm.r1, sm.r2, sm.r3, sm.r4, gv⟩
 have k9 : KI9 w cf f := ⟨h3, sm.f0, sm.f1, sm.f2⟩
 have ON : Hid (∀ w0, Below w.heap.size w w0 → Calls Tryz.prog 62 #[.agg (Value.int .i64 K :: (cp ++ (cr ++ cf))).toArray] w0 fun e w' => e = .returned (.int .i64 (kOn ⟨K, p, r, f⟩)) ∧ Below w0.heap.size w0 w') := ON0
 clear ON0 h1 h2 h3 sm gv
 obtain ⟨W, hW⟩ : ∃ W, W = w.alloc (.cells (Value.int .i64 K :: (cp ++ (cr ++ cf))).toArray 45) := ⟨_, rfl⟩
 have bw : Below w.heap.size w W := by rw [hW]; exact below_alloc w _
 have B0 := yc1 hW
 subst hW
 obtain ⟨e1, e2, e3, e4⟩ := on_r o8
 rw [e4]
 rw [o8] at ON
 have C : Hid (∀ w0, Below w.heap.size w w0 → Calls Tryz.prog 74 #[.agg cr.toArray] w0 fun e w' => e = .returned (.int .i64 (kZ8 r)) ∧ Below w0.heap.size w0 w') := fun w0 g => size_k8 cr r w0 (k8.keep g)
 clear e1 e2 e3 e4 k7 k8 k9
 generalize kZ8 r = P0 at *
 go_enter Tryz.func42, Tryz.ntmps42
 go_wp2_with (refine load_obj w.heap.size _ (by rfl) rfl B0 Tryz.underlying45 HL.out ?_)
 refine (ON.out _ bw).mono ?_
 rintro e w1 ⟨rfl, hb⟩
 replace B0 := B0.kept hb
 replace bw := bw.trans (hb.mono bw.size)
 clear hb
 obtain ⟨c0, p1, p2, p3⟩ := parts l4.out l9.out B0
 go_wp2_with (refine load_part w.heap.size 5 cr (by rfl) rfl p2 Tryz.underlying41 LR.out ?_)
 refine (C.out _ bw).mono ?_
 rintro e w2 ⟨rfl, hb⟩
 replace bw := bw.trans (hb.mono bw.size)
 go_wp2
 go_ret
 exact ⟨rfl, bw⟩
theorem size_k (cs : List Value) (a : RA) (w : World) (h : KI w cs a) :
  Calls Tryz.prog 42 #[.agg cs.toArray] w fun e w' => e = .returned (.int .i64 (kZ a)) ∧ Below w.heap.size w w' := by
 by_cases o8 : kOn a = 2
 ·exact size_r cs a w h o8
 have ON0 := fun (w0 : World) (hb : Below w.heap.size w w0) => only_c cs a w0 (h.arg.keep hb)
 have HL := Hid.mk8 h.arg.len
 have sm := h.sm
 have gv := h.gv
 replace h := h.arg
 obtain ⟨cp, cr, cf, rfl, hK, h1, h2, h3⟩ := h
 have l4 := Hid.mk8 h1.four
 have l9 := Hid.mk8 h2.nine
 have LP := Hid.mk8 h1.len
 have LR := Hid.mk8 h2.len
 have LF := Hid.mk8 h3.len
 obtain ⟨K, p, r, f⟩ := a
 dsimp only at *
 have k7 : KI7 w cp p := ⟨h1, sm.p1, sm.p2, sm.p3⟩
 have k8 : KI8 w cr r := ⟨h2, sm.r1, sm.r2, sm.r3, sm.r4, gv⟩
 have k9 : KI9 w cf f := ⟨h3, sm.f0, sm.f1, sm.f2⟩
 have ON : Hid (∀ w0, Below w.heap.size w w0 → Calls Tryz.prog 62 #[.agg (Value.int .i64 K :: (cp ++ (cr ++ cf))).toArray] w0 fun e w' => e = .returned (.int .i64 (kOn ⟨K, p, r, f⟩)) ∧ Below w0.heap.size w0 w') := ON0
 clear ON0 h1 h2 h3 sm gv
 obtain ⟨W, hW⟩ : ∃ W, W = w.alloc (.cells (Value.int .i64 K :: (cp ++ (cr ++ cf))).toArray 45) := ⟨_, rfl⟩
 have bw : Below w.heap.size w W := by rw [hW]; exact below_alloc w _
 have B0 := yc1 hW
 subst hW
 by_cases o7 : kOn ⟨K, p, r, f⟩ = 1
 ·skip
  obtain ⟨e1, e2, e3, e4⟩ := on_p o7
  rw [e4]
  rw [o7] at ON
  have C : Hid (∀ w0, Below w.heap.size w w0 → Calls Tryz.prog 73 #[.agg cp.toArray] w0 fun e w' => e = .returned (.int .i64 (kZ7 p)) ∧ Below w0.heap.size w0 w') := fun w0 g => size_k7 cp p w0 (k7.keep g)
  clear e1 e2 e3 e4 k7 k8 k9
  generalize kZ7 p = P0 at *
  go_enter Tryz.func42, Tryz.ntmps42
  go_wp2_with (refine load_obj w.heap.size _ (by rfl) rfl B0 Tryz.underlying45 HL.out ?_)
  refine (ON.out _ bw).mono ?_
  rintro e w1 ⟨rfl, hb⟩
  replace B0 := B0.kept hb
  replace bw := bw.trans (hb.mono bw.size)
  clear hb
  obtain ⟨c0, p1, p2, p3⟩ := parts l4.out l9.out B0
  go_wp2_with (refine load_part w.heap.size 1 cp (by rfl) rfl p1 Tryz.underlying37 LP.out ?_)
  refine (C.out _ bw).mono ?_
  rintro e w2 ⟨rfl, hb⟩
  replace bw := bw.trans (hb.mono bw.size)
  go_wp2
  go_ret
  exact ⟨rfl, bw⟩
 by_cases o9 : kOn ⟨K, p, r, f⟩ = 3
 ·skip
  obtain ⟨e1, e2, e3, e4⟩ := on_f o9
  rw [e4]
  rw [o9] at ON
  have C : Hid (∀ w0, Below w.heap.size w w0 → Calls Tryz.prog 75 #[.agg cf.toArray] w0 fun e w' => e = .returned (.int .i64 (kZ9 f)) ∧ Below w0.heap.size w0 w') := fun w0 g => size_k9 cf f w0 (k9.keep g)
  clear e1 e2 e3 e4 k7 k8 k9
  generalize kZ9 f = P0 at *
  go_enter Tryz.func42, Tryz.ntmps42
  go_wp2_with (refine load_obj w.heap.size _ (by rfl) rfl B0 Tryz.underlying45 HL.out ?_)
  refine (ON.out _ bw).mono ?_
  rintro e w1 ⟨rfl, hb⟩
  replace B0 := B0.kept hb
  replace bw := bw.trans (hb.mono bw.size)
  clear hb
  obtain ⟨c0, p1, p2, p3⟩ := parts l4.out l9.out B0
  go_wp2_with (refine load_part w.heap.size 14 cf (by rfl) rfl p3 Tryz.underlying43 LF.out ?_)
  refine (C.out _ bw).mono ?_
  rintro e w2 ⟨rfl, hb⟩
  replace bw := bw.trans (hb.mono bw.size)
  go_wp2
  go_ret
  exact ⟨rfl, bw⟩
 obtain ⟨e1, e2, e3, e4⟩ := on_n o7 o8 o9
 rw [e4]
 have d7 : (kOn ⟨K, p, r, f⟩ == 1) = false := by simp [o7]
 have d8 : (kOn ⟨K, p, r, f⟩ == 2) = false := by simp [o8]
 have d9 : (kOn ⟨K, p, r, f⟩ == 3) = false := by simp [o9]
 clear e1 e2 e3 e4 k7 k8 k9
 generalize kOn ⟨K, p, r, f⟩ = O at *
 go_enter Tryz.func42, Tryz.ntmps42
 go_wp2_with (refine load_obj w.heap.size _ (by rfl) rfl B0 Tryz.underlying45 HL.out ?_)
 refine (ON.out _ bw).mono ?_
 rintro e w1 ⟨rfl, hb⟩
 replace B0 := B0.kept hb
 replace bw := bw.trans (hb.mono bw.size)
 go_wp2
 go_ret
 exact ⟨rfl, bw⟩
theorem access_r (cs : List Value) (a : RA) (i : Int) (w : World) (h : KI w cs a) (hi : I64 i) (o8 : kOn a = 2) :
  Calls Tryz.prog 32 #[.agg cs.toArray, .int .i64 i] w fun e w' => e = .returned (.tuple #[.bool (gaB (kOk a) (kBN a) (kBX a) i), .int .i64 (gaE (kOk a) (kBN a) (kBX a) i)]) ∧ Below w.heap.size w w' := by
 have ON0 := fun (w0 : World) (hb : Below w.heap.size w w0) => only_c cs a w0 (h.arg.keep hb)
 have HL := Hid.mk8 h.arg.len
 have sm := h.sm
 have gv := h.gv
 replace h := h.arg
 obtain ⟨cp, cr, cf, rfl, hK, h1, h2, h3⟩ := h
 have l4 := Hid.mk8 h1.four
 have l9 := Hid.mk8 h2.nine
 have LP := Hid.mk8 h1.len
 have LR := Hid.mk8 h2.len
 have LF := Hid.mk8 h3.len
 obtain ⟨K, p, r, f⟩ := a
 dsimp only at *
 have k7 : KI7 w cp p := ⟨h1, sm.p1, sm.p2, sm.p3⟩
 have k8 : KI8 w cr r := ⟨h2, sm.r1, sm.r2, sm.r3, sm.r4, gv⟩
 have k9 : KI9 w cf f := ⟨h3, sm.f0, sm.f1, sm.f2⟩
 have ON : Hid (∀ w0, Below w.heap.size w w0 → Calls Tryz.prog 62 #[.agg (Value.int .i64 K :: (cp ++ (cr ++ cf))).toArray] w0 fun e w' => e = .returned (.int .i64 (kOn ⟨K, p, r, f⟩)) ∧ Below w0.heap.size w0 w') := ON0
 clear ON0 h1 h2 h3 sm gv
 obtain ⟨W, hW⟩ : ∃ W, W = w.alloc (.cells (Value.int .i64 K :: (cp ++ (cr ++ cf))).toArray 45) := ⟨_, rfl⟩
 have bw : Below w.heap.size w W := by rw [hW]; exact below_alloc w _
 have B0 := yc1 hW
 subst hW
 obtain ⟨e1, e2, e3, e4⟩ := on_r o8
 rw [e1, e2, e3]
 rw [o8] at ON
 have C : Hid (∀ w0, Below w.heap.size w w0 → Calls Tryz.prog 64 #[.agg cr.toArray, .int .i64 i] w0 fun e w' => e = .returned (.tuple #[.bool (gaB (kOk8 r) (kBN8 r) (kBX8 r) i), .int .i64 (gaE (kOk8 r) (kBN8 r) (kBX8 r) i)]) ∧ Below w0.heap.size w0 w') := fun w0 g => access_k8 cr r i w0 (k8.keep g) hi
 clear e1 e2 e3 e4 k7 k8 k9
 generalize gaB (kOk8 r) (kBN8 r) (kBX8 r) i = P0 at *
 generalize gaE (kOk8 r) (kBN8 r) (kBX8 r) i = P1 at *
 go_enter Tryz.func32, Tryz.ntmps32
 go_wp2_with (refine load_obj w.heap.size _ (by rfl) rfl B0 Tryz.underlying45 HL.out ?_)
 refine (ON.out _ bw).mono ?_
 rintro e w1 ⟨rfl, hb⟩
 replace B0 := B0.kept hb
 replace bw := bw.trans (hb.mono bw.size)
 clear hb
 obtain ⟨c0, p1, p2, p3⟩ := parts l4.out l9.out B0
 go_wp2_with (refine load_part w.heap.size 5 cr (by rfl) rfl p2 Tryz.underlying41 LR.out ?_)
 refine (C.out _ bw).mono ?_
 rintro e w2 ⟨rfl, hb⟩
 replace bw := bw.trans (hb.mono bw.size)
 go_wp2
 go_ret2
 exact ⟨rfl, bw⟩
theorem access_f (cs : List Value) (a : RA) (i : Int) (w : World) (h : KI w cs a) (hi : I64 i) (o9 : kOn a = 3) :
  Calls Tryz.prog 32 #[.agg cs.toArray, .int .i64 i] w fun e w' => e = .returned (.tuple #[.bool (gaB (kOk a) (kBN a) (kBX a) i), .int .i64 (gaE (kOk a) (kBN a) (kBX a) i)]) ∧ Below w.heap.size w w' := by
 have ON0 := fun (w0 : World) (hb : Below w.heap.size w w0) => only_c cs a w0 (h.arg.keep hb)
 have HL := Hid.mk8 h.arg.len
 have sm := h.sm
 have gv := h.gv
 replace h := h.arg
 obtain ⟨cp, cr, cf, rfl, hK, h1, h2, h3⟩ := h
 have l4 := Hid.mk8 h1.four
 have l9 := Hid.mk8 h2.nine
 have LP := Hid.mk8 h1.len
 have LR := Hid.mk8 h2.len
 have LF := Hid.mk8 h3.len
 obtain ⟨K, p, r, f⟩ := a
 dsimp only at *
 have k7 : KI7 w cp p := ⟨h1, sm.p1, sm.p2, sm.p3⟩
 have k8 : KI8 w cr r := ⟨h2, sm.r1, sm.r2, sm.r3, sm.r4, gv⟩
 have k9 : KI9 w cf f := ⟨h3, sm.f0, sm.f1, sm.f2⟩
 have ON : Hid (∀ w0, Below w.heap.size w w0 → Calls Tryz.prog 62 #[.agg (Value.int .i64 K :: (cp ++ (cr ++ cf))).toArray] w0 fun e w' => e = .returned (.int .i64 (kOn ⟨K, p, r, f⟩)) ∧ Below w0.heap.size w0 w') := ON0
 clear ON0 h1 h2 h3 sm gv
 obtain ⟨W, hW⟩ : ∃ W, W = w.alloc (.cells (Value.int .i64 K :: (cp ++ (cr ++ cf))).toArray 45) := ⟨_, rfl⟩
 have bw : Below w.heap.size w W := by rw [hW]; exact below_alloc w _
 have B0 := yc1 hW
 subst hW
 skip
 obtain ⟨e1, e2, e3, e4⟩ := on_f o9
 rw [e1, e2, e3]
 rw [o9] at ON
 have C : Hid (∀ w0, Below w.heap.size w w0 → Calls Tryz.prog 65 #[.agg cf.toArray, .int .i64 i] w0 fun e w' => e = .returned (.tuple #[.bool (gaB (kOk9 f) (kBN9 f) (kBX9 f) i), .int .i64 (gaE (kOk9 f) (kBN9 f) (kBX9 f) i)]) ∧ Below w0.heap.size w0 w') := fun w0 g => access_k9 cf f i w0 (k9.keep g) hi
 clear e1 e2 e3 e4 k7 k8 k9
 generalize gaB (kOk9 f) (kBN9 f) (kBX9 f) i = P0 at *
 generalize gaE (kOk9 f) (kBN9 f) (kBX9 f) i = P1 at *
 go_enter Tryz.func32, Tryz.ntmps32
 go_wp2_with (refine load_obj w.heap.size _ (by rfl) rfl B0 Tryz.underlying45 HL.out ?_)
 refine (ON.out _ bw).mono ?_
 rintro e w1 ⟨rfl, hb⟩
 replace B0 := B0.kept hb
 replace bw := bw.trans (hb.mono bw.size)
 clear hb
 obtain ⟨c0, p1, p2, p3⟩ := parts l4.out l9.out B0
 go_wp2_with (refine load_part w.heap.size 14 cf (by rfl) rfl p3 Tryz.underlying43 LF.out ?_)
 refine (C.out _ bw).mono ?_
 rintro e w2 ⟨rfl, hb⟩
 replace bw := bw.trans (hb.mono bw.size)
 go_wp2
 go_ret2
 exact ⟨rfl, bw⟩
theorem access_k (cs : List Value) (a : RA) (i : Int) (w : World) (h : KI w cs a) (hi : I64 i) :
  Calls Tryz.prog 32 #[.agg cs.toArray, .int .i64 i] w fun e w' => e = .returned (.tuple #[.bool (gaB (kOk a) (kBN a) (kBX a) i), .int .i64 (gaE (kOk a) (kBN a) (kBX a) i)]) ∧ Below w.heap.size w w' := by
 by_cases o8 : kOn a = 2
 ·exact access_r cs a i w h hi o8
 by_cases o9 : kOn a = 3
 ·exact access_f cs a i w h hi o9
 have ON0 := fun (w0 : World) (hb : Below w.heap.size w w0) => only_c cs a w0 (h.arg.keep hb)
 have HL := Hid.mk8 h.arg.len
 have sm := h.sm
 have gv := h.gv
 replace h := h.arg
 obtain ⟨cp, cr, cf, rfl, hK, h1, h2, h3⟩ := h
 have l4 := Hid.mk8 h1.four
 have l9 := Hid.mk8 h2.nine
 have LP := Hid.mk8 h1.len
 have LR := Hid.mk8 h2.len
 have LF := Hid.mk8 h3.len
 obtain ⟨K, p, r, f⟩ := a
 dsimp only at *
 have k7 : KI7 w cp p := ⟨h1, sm.p1, sm.p2, sm.p3⟩
 have k8 : KI8 w cr r := ⟨h2, sm.r1, sm.r2, sm.r3, sm.r4, gv⟩
 have k9 : KI9 w cf f := ⟨h3, sm.f0, sm.f1, sm.f2⟩
 have ON : Hid (∀ w0, Below w.heap.size w w0 → Calls Tryz.prog 62 #[.agg (Value.int .i64 K :: (cp ++ (cr ++ cf))).toArray] w0 fun e w' => e = .returned (.int .i64 (kOn ⟨K, p, r, f⟩)) ∧ Below w0.heap.size w0 w') := ON0
 clear ON0 h1 h2 h3 sm gv
 obtain ⟨W, hW⟩ : ∃ W, W = w.alloc (.cells (Value.int .i64 K :: (cp ++ (cr ++ cf))).toArray 45) := ⟨_, rfl⟩
 have bw : Below w.heap.size w W := by rw [hW]; exact below_alloc w _
 have B0 := yc1 hW
 subst hW
 by_cases o7 : kOn ⟨K, p, r, f⟩ = 1
 ·skip
  obtain ⟨e1, e2, e3, e4⟩ := on_p o7
  rw [e1, e2, e3]
  rw [o7] at ON
  have C : Hid (∀ w0, Below w.heap.size w w0 → Calls Tryz.prog 63 #[.agg cp.toArray, .int .i64 i] w0 fun e w' => e = .returned (.tuple #[.bool (gaB (kOk7 p) (kBN7 p) (kBX7 p) i), .int .i64 (gaE (kOk7 p) (kBN7 p) (kBX7 p) i)]) ∧ Below w0.heap.size w0 w') := fun w0 g => access_k7 cp p i w0 (k7.keep g) hi
  clear e1 e2 e3 e4 k7 k8 k9
  generalize gaB (kOk7 p) (kBN7 p) (kBX7 p) i = P0 at *
  generalize gaE (kOk7 p) (kBN7 p) (kBX7 p) i = P1 at *
  go_enter Tryz.func32, Tryz.ntmps32
  go_wp2_with (refine load_obj w.heap.size _ (by rfl) rfl B0 Tryz.underlying45 HL.out ?_)
  refine (ON.out _ bw).mono ?_
  rintro e w1 ⟨rfl, hb⟩
  replace B0 := B0.kept hb
  replace bw := bw.trans (hb.mono bw.size)
  clear hb
  obtain ⟨c0, p1, p2, p3⟩ := parts l4.out l9.out B0
  go_wp2_with (refine load_part w.heap.size 1 cp (by rfl) rfl p1 Tryz.underlying37 LP.out ?_)
  refine (C.out _ bw).mono ?_
  rintro e w2 ⟨rfl, hb⟩
  replace bw := bw.trans (hb.mono bw.size)
  go_wp2
  go_ret2
  exact ⟨rfl, bw⟩
 obtain ⟨e1, e2, e3, e4⟩ := on_n o7 o8 o9
 rw [e1, e2, e3]
 have d7 : (kOn ⟨K, p, r, f⟩ == 1) = false := by simp [o7]
 have d8 : (kOn ⟨K, p, r, f⟩ == 2) = false := by simp [o8]
 have d9 : (kOn ⟨K, p, r, f⟩ == 3) = false := by simp [o9]
 clear e1 e2 e3 e4 k7 k8 k9
 generalize kOn ⟨K, p, r, f⟩ = O at *
 go_enter Tryz.func32, Tryz.ntmps32
 go_wp2_with (refine load_obj w.heap.size _ (by rfl) rfl B0 Tryz.underlying45 HL.out ?_)
 refine (ON.out _ bw).mono ?_
 rintro e w1 ⟨rfl, hb⟩
 replace B0 := B0.kept hb
 replace bw := bw.trans (hb.mono bw.size)
 go_wp2
 go_ret2
 exact ⟨rfl, bw⟩
theorem rank_r (cs : List Value) (a : RA) (bit : Bool) (i : Int) (w : World) (h : KI w cs a) (hi : I64 i) (o8 : kOn a = 2) :
  Calls Tryz.prog 66 #[.agg cs.toArray, .bool bit, .int .i64 i] w fun e w' => e = .returned (.tuple #[.int .i64 (grN (kOk a) (kBN a) (kBX a) bit i), .int .i64 (grE (kOk a) (kBN a) i)]) ∧ Below w.heap.size w w' := by
 have ON0 := fun (w0 : World) (hb : Below w.heap.size w w0) => only_c cs a w0 (h.arg.keep hb)
 have HL := Hid.mk8 h.arg.len
 have sm := h.sm
 have gv := h.gv
 replace h := h.arg
 obtain ⟨cp, cr, cf, rfl, hK, h1, h2, h3⟩ := h
 have l4 := Hid.mk8 h1.four
 have l9 := Hid.mk8 h2.nine
 have LP := Hid.mk8 h1.len
 have LR := Hid.mk8 h2.len
 have LF := Hid.mk8 h3.len
 obtain ⟨K, p, r, f⟩ := a
 dsimp only at *
 have k7 : KI7 w cp p := ⟨h1, sm.p1, sm.p2, sm.p3⟩
 have k8 : KI8 w cr r := ⟨h2, sm.r1, sm.r2, sm.r3, sm.r4, gv⟩
 have k9 : KI9 w cf f := ⟨h3, sm.f0, sm.f1, sm.f2⟩
 have ON : Hid (∀ w0, Below w.heap.size w w0 → Calls Tryz.prog 62 #[.agg (Value.int .i64 K :: (cp ++ (cr ++ cf))).toArray] w0 fun e w' => e = .returned (.int .i64 (kOn ⟨K, p, r, f⟩)) ∧ Below w0.heap.size w0 w') := ON0
 clear ON0 h1 h2 h3 sm gv
 obtain ⟨W, hW⟩ : ∃ W, W = w.alloc (.cells (Value.int .i64 K :: (cp ++ (cr ++ cf))).toArray 45) := ⟨_, rfl⟩
 have bw : Below w.heap.size w W := by rw [hW]; exact below_alloc w _
 have B0 := yc1 hW
 subst hW
 obtain ⟨e1, e2, e3, e4⟩ := on_r o8
 rw [e1, e2, e3]
 rw [o8] at ON
 have C : Hid (∀ w0, Below w.heap.size w w0 → Calls Tryz.prog 121 #[.agg cr.toArray, .bool bit, .int .i64 i] w0 fun e w' => e = .returned (.tuple #[.int .i64 (grN (kOk8 r) (kBN8 r) (kBX8 r) bit i), .int .i64 (grE (kOk8 r) (kBN8 r) i)]) ∧ Below w0.heap.size w0 w') := fun w0 g => rank_k8 cr r bit i w0 (k8.keep g) hi
 clear e1 e2 e3 e4 k7 k8 k9
 generalize grN (kOk8 r) (kBN8 r) (kBX8 r) bit i = P0 at *
 generalize grE (kOk8 r) (kBN8 r) i = P1 at *
 go_enter Tryz.func66, Tryz.ntmps66
 go_wp2_with (refine load_obj w.heap.size _ (by rfl) rfl B0 Tryz.underlying45 HL.out ?_)
 refine (ON.out _ bw).mono ?_
 rintro e w1 ⟨rfl, hb⟩
 replace B0 := B0.kept hb
 replace bw := bw.trans (hb.mono bw.size)
 clear hb
 obtain ⟨c0, p1, p2, p3⟩ := parts l4.out l9.out B0
 go_wp2_with (refine load_part w.heap.size 5 cr (by rfl) rfl p2 Tryz.underlying41 LR.out ?_)
 refine (C.out _ bw).mono ?_
 rintro e w2 ⟨rfl, hb⟩
 replace bw := bw.trans (hb.mono bw.size)
 go_wp2
 go_ret2
 exact ⟨rfl, bw⟩
theorem rank_k (cs : List Value) (a : RA) (bit : Bool) (i : Int) (w : World) (h : KI w cs a) (hi : I64 i) :
  Calls Tryz.prog 66 #[.agg cs.toArray, .bool bit, .int .i64 i] w fun e w' => e = .returned (.tuple #[.int .i64 (grN (kOk a) (kBN a) (kBX a) bit i), .int .i64 (grE (kOk a) (kBN a) i)]) ∧ Below w.heap.size w w' := by
 by_cases o8 : kOn a = 2
 ·exact rank_r cs a bit i w h hi o8
 have ON0 := fun (w0 : World) (hb : Below w.heap.size w w0) => only_c cs a w0 (h.arg.keep hb)
 have HL := Hid.mk8 h.arg.len
 have sm := h.sm
 have gv := h.gv
 replace h := h.arg
 obtain ⟨cp, cr, cf, rfl, hK, h1, h2, h3⟩ := h
 have l4 := Hid.mk8 h1.four
 have l9 := Hid.mk8 h2.nine
 have LP := Hid.mk8 h1.len
 have LR := Hid.mk8 h2.len
 have LF := Hid.mk8 h3.len
 obtain ⟨K, p, r, f⟩ := a
 dsimp only at *
 have k7 : KI7 w cp p := ⟨h1, sm.p1, sm.p2, sm.p3⟩
 have k8 : KI8 w cr r := ⟨h2, sm.r1, sm.r2, sm.r3, sm.r4, gv⟩
 have k9 : KI9 w cf f := ⟨h3, sm.f0, sm.f1, sm.f2⟩
 have ON : Hid (∀ w0, Below w.heap.size w w0 → Calls Tryz.prog 62 #[.agg (Value.int .i64 K :: (cp ++ (cr ++ cf))).toArray] w0 fun e w' => e = .returned (.int .i64 (kOn ⟨K, p, r, f⟩)) ∧ Below w0.heap.size w0 w') := ON0
 clear ON0 h1 h2 h3 sm gv
 obtain ⟨W, hW⟩ : ∃ W, W = w.alloc (.cells (Value.int .i64 K :: (cp ++ (cr ++ cf))).toArray 45) := ⟨_, rfl⟩
 have bw : Below w.heap.size w W := by rw [hW]; exact below_alloc w _
 have B0 := yc1 hW
 subst hW
 by_cases o7 : kOn ⟨K, p, r, f⟩ = 1
 ·skip
  obtain ⟨e1, e2, e3, e4⟩ := on_p o7
  rw [e1, e2, e3]
  rw [o7] at ON
  have C : Hid (∀ w0, Below w.heap.size w w0 → Calls Tryz.prog 120 #[.agg cp.toArray, .bool bit, .int .i64 i] w0 fun e w' => e = .returned (.tuple #[.int .i64 (grN (kOk7 p) (kBN7 p) (kBX7 p) bit i), .int .i64 (grE (kOk7 p) (kBN7 p) i)]) ∧ Below w0.heap.size w0 w') := fun w0 g => rank_k7 cp p bit i w0 (k7.keep g) hi
  clear e1 e2 e3 e4 k7 k8 k9
  generalize grN (kOk7 p) (kBN7 p) (kBX7 p) bit i = P0 at *
  generalize grE (kOk7 p) (kBN7 p) i = P1 at *
  go_enter Tryz.func66, Tryz.ntmps66
  go_wp2_with (refine load_obj w.heap.size _ (by rfl) rfl B0 Tryz.underlying45 HL.out ?_)
  refine (ON.out _ bw).mono ?_
  rintro e w1 ⟨rfl, hb⟩
  replace B0 := B0.kept hb
  replace bw := bw.trans (hb.mono bw.size)
  clear hb
  obtain ⟨c0, p1, p2, p3⟩ := parts l4.out l9.out B0
  go_wp2_with (refine load_part w.heap.size 1 cp (by rfl) rfl p1 Tryz.underlying37 LP.out ?_)
  refine (C.out _ bw).mono ?_
  rintro e w2 ⟨rfl, hb⟩
  replace bw := bw.trans (hb.mono bw.size)
  go_wp2
  go_ret2
  exact ⟨rfl, bw⟩
 by_cases o9 : kOn ⟨K, p, r, f⟩ = 3
 ·skip
  obtain ⟨e1, e2, e3, e4⟩ := on_f o9
  rw [e1, e2, e3]
  rw [o9] at ON
  have C : Hid (∀ w0, Below w.heap.size w w0 → Calls Tryz.prog 122 #[.agg cf.toArray, .bool bit, .int .i64 i] w0 fun e w' => e = .returned (.tuple #[.int .i64 (grN (kOk9 f) (kBN9 f) (kBX9 f) bit i), .int .i64 (grE (kOk9 f) (kBN9 f) i)]) ∧ Below w0.heap.size w0 w') := fun w0 g => rank_k9 cf f bit i w0 (k9.keep g) hi
  clear e1 e2 e3 e4 k7 k8 k9
  generalize grN (kOk9 f) (kBN9 f) (kBX9 f) bit i = P0 at *
  generalize grE (kOk9 f) (kBN9 f) i = P1 at *
  go_enter Tryz.func66, Tryz.ntmps66
  go_wp2_with (refine load_obj w.heap.size _ (by rfl) rfl B0 Tryz.underlying45 HL.out ?_)
  refine (ON.out _ bw).mono ?_
  rintro e w1 ⟨rfl, hb⟩
  replace B0 := B0.kept hb
  replace bw := bw.trans (hb.mono bw.size)
  clear hb
  obtain ⟨c0, p1, p2, p3⟩ := parts l4.out l9.out B0
  go_wp2_with (refine load_part w.heap.size 14 cf (by rfl) rfl p3 Tryz.underlying43 LF.out ?_)
  refine (C.out _ bw).mono ?_
  rintro e w2 ⟨rfl, hb⟩
  replace bw := bw.trans (hb.mono bw.size)
  go_wp2
  go_ret2
  exact ⟨rfl, bw⟩
 obtain ⟨e1, e2, e3, e4⟩ := on_n o7 o8 o9
 rw [e1, e2, e3]
 have d7 : (kOn ⟨K, p, r, f⟩ == 1) = false := by simp [o7]
 have d8 : (kOn ⟨K, p, r, f⟩ == 2) = false := by simp [o8]
 have d9 : (kOn ⟨K, p, r, f⟩ == 3) = false := by simp [o9]
 clear e1 e2 e3 e4 k7 k8 k9
 generalize kOn ⟨K, p, r, f⟩ = O at *
 go_enter Tryz.func66, Tryz.ntmps66
 go_wp2_with (refine load_obj w.heap.size _ (by rfl) rfl B0 Tryz.underlying45 HL.out ?_)
 refine (ON.out _ bw).mono ?_
 rintro e w1 ⟨rfl, hb⟩
 replace B0 := B0.kept hb
 replace bw := bw.trans (hb.mono bw.size)
 go_wp2
 go_ret2
 exact ⟨rfl, bw⟩
theorem select_r (cs : List Value) (a : RA) (bit : Bool) (k : Int) (w : World) (h : KI w cs a) (hi : I64 k) (o8 : kOn a = 2) :
  Calls Tryz.prog 46 #[.agg cs.toArray, .bool bit, .int .i64 k] w fun e w' => e = .returned (.tuple #[.int .i64 (gsX (kOk a) (kBN a) (kBX a) bit k), .int .i64 (gsE (kOk a) (kBN a) (kBX a) bit k)]) ∧ Below w.heap.size w w' := by
 have ON0 := fun (w0 : World) (hb : Below w.heap.size w w0) => only_c cs a w0 (h.arg.keep hb)
 have HL := Hid.mk8 h.arg.len
 have sm := h.sm
 have gv := h.gv
 replace h := h.arg
 obtain ⟨cp, cr, cf, rfl, hK, h1, h2, h3⟩ := h
 have l4 := Hid.mk8 h1.four
 have l9 := Hid.mk8 h2.nine
 have LP := Hid.mk8 h1.len
 have LR := Hid.mk8 h2.len
 have LF := Hid.mk8 h3.len
 obtain ⟨K, p, r, f⟩ := a
 dsimp only at *
 have k7 : KI7 w cp p := ⟨h1, sm.p1, sm.p2, sm.p3⟩
 have k8 : KI8 w cr r := ⟨h2, sm.r1, sm.r2, sm.r3, sm.r4, gv⟩
 have k9 : KI9 w cf f := ⟨h3, sm.f0, sm.f1, sm.f2⟩
 have ON : Hid (∀ w0, Below w.heap.size w w0 → Calls Tryz.prog 62 #[.agg (Value.int .i64 K :: (cp ++ (cr ++ cf))).toArray] w0 fun e w' => e = .returned (.int .i64 (kOn ⟨K, p, r, f⟩)) ∧ Below w0.heap.size w0 w') := ON0
 clear ON0 h1 h2 h3 sm gv
 obtain ⟨W, hW⟩ : ∃ W, W = w.alloc (.cells (Value.int .i64 K :: (cp ++ (cr ++ cf))).toArray 45) := ⟨_, rfl⟩
 have bw : Below w.heap.size w W := by rw [hW]; exact below_alloc w _
 have B0 := yc1 hW
 subst hW
 obtain ⟨e1, e2, e3, e4⟩ := on_r o8
 rw [e1, e2, e3]
 rw [o8] at ON
 have C : Hid (∀ w0, Below w.heap.size w w0 → Calls Tryz.prog 82 #[.agg cr.toArray, .bool bit, .int .i64 k] w0 fun e w' => e = .returned (.tuple #[.int .i64 (gsX (kOk8 r) (kBN8 r) (kBX8 r) bit k), .int .i64 (gsE (kOk8 r) (kBN8 r) (kBX8 r) bit k)]) ∧ Below w0.heap.size w0 w') := fun w0 g => select_k8 cr r bit k w0 (k8.keep g) hi
 clear e1 e2 e3 e4 k7 k8 k9
 generalize gsX (kOk8 r) (kBN8 r) (kBX8 r) bit k = P0 at *
 generalize gsE (kOk8 r) (kBN8 r) (kBX8 r) bit k = P1 at *
 go_enter Tryz.func46, Tryz.ntmps46
 go_wp2_with (refine load_obj w.heap.size _ (by rfl) rfl B0 Tryz.underlying45 HL.out ?_)
 refine (ON.out _ bw).mono ?_
 rintro e w1 ⟨rfl, hb⟩
 replace B0 := B0.kept hb
 replace bw := bw.trans (hb.mono bw.size)
 clear hb
 obtain ⟨c0, p1, p2, p3⟩ := parts l4.out l9.out B0
 go_wp2_with (refine load_part w.heap.size 5 cr (by rfl) rfl p2 Tryz.underlying41 LR.out ?_)
 refine (C.out _ bw).mono ?_
 rintro e w2 ⟨rfl, hb⟩
 replace bw := bw.trans (hb.mono bw.size)
 go_wp2
 go_ret2
 exact ⟨rfl, bw⟩
theorem select_f (cs : List Value) (a : RA) (bit : Bool) (k : Int) (w : World) (h : KI w cs a) (hi : I64 k) (o9 : kOn a = 3) :
  Calls Tryz.prog 46 #[.agg cs.toArray, .bool bit, .int .i64 k] w fun e w' => e = .returned (.tuple #[.int .i64 (gsX (kOk a) (kBN a) (kBX a) bit k), .int .i64 (gsE (kOk a) (kBN a) (kBX a) bit k)]) ∧ Below w.heap.size w w' := by
 have ON0 := fun (w0 : World) (hb : Below w.heap.size w w0) => only_c cs a w0 (h.arg.keep hb)
 have HL := Hid.mk8 h.arg.len
 have sm := h.sm
 have gv := h.gv
 replace h := h.arg
 obtain ⟨cp, cr, cf, rfl, hK, h1, h2, h3⟩ := h
 have l4 := Hid.mk8 h1.four
 have l9 := Hid.mk8 h2.nine
 have LP := Hid.mk8 h1.len
 have LR := Hid.mk8 h2.len
 have LF := Hid.mk8 h3.len
 obtain ⟨K, p, r, f⟩ := a
 dsimp only at *
 have k7 : KI7 w cp p := ⟨h1, sm.p1, sm.p2, sm.p3⟩
 have k8 : KI8 w cr r := ⟨h2, sm.r1, sm.r2, sm.r3, sm.r4, gv⟩
 have k9 : KI9 w cf f := ⟨h3, sm.f0, sm.f1, sm.f2⟩
 have ON : Hid (∀ w0, Below w.heap.size w w0 → Calls Tryz.prog 62 #[.agg (Value.int .i64 K :: (cp ++ (cr ++ cf))).toArray] w0 fun e w' => e = .returned (.int .i64 (kOn ⟨K, p, r, f⟩)) ∧ Below w0.heap.size w0 w') := ON0
 clear ON0 h1 h2 h3 sm gv
 obtain ⟨W, hW⟩ : ∃ W, W = w.alloc (.cells (Value.int .i64 K :: (cp ++ (cr ++ cf))).toArray 45) := ⟨_, rfl⟩
 have bw : Below w.heap.size w W := by rw [hW]; exact below_alloc w _
 have B0 := yc1 hW
 subst hW
 skip
 obtain ⟨e1, e2, e3, e4⟩ := on_f o9
 rw [e1, e2, e3]
 rw [o9] at ON
 have C : Hid (∀ w0, Below w.heap.size w w0 → Calls Tryz.prog 83 #[.agg cf.toArray, .bool bit, .int .i64 k] w0 fun e w' => e = .returned (.tuple #[.int .i64 (gsX (kOk9 f) (kBN9 f) (kBX9 f) bit k), .int .i64 (gsE (kOk9 f) (kBN9 f) (kBX9 f) bit k)]) ∧ Below w0.heap.size w0 w') := fun w0 g => select_k9 cf f bit k w0 (k9.keep g) hi
 clear e1 e2 e3 e4 k7 k8 k9
 generalize gsX (kOk9 f) (kBN9 f) (kBX9 f) bit k = P0 at *
 generalize gsE (kOk9 f) (kBN9 f) (kBX9 f) bit k = P1 at *
 go_enter Tryz.func46, Tryz.ntmps46
 go_wp2_with (refine load_obj w.heap.size _ (by rfl) rfl B0 Tryz.underlying45 HL.out ?_)
 refine (ON.out _ bw).mono ?_
 rintro e w1 ⟨rfl, hb⟩
 replace B0 := B0.kept hb
 replace bw := bw.trans (hb.mono bw.size)
 clear hb
 obtain ⟨c0, p1, p2, p3⟩ := parts l4.out l9.out B0
 go_wp2_with (refine load_part w.heap.size 14 cf (by rfl) rfl p3 Tryz.underlying43 LF.out ?_)
 refine (C.out _ bw).mono ?_
 rintro e w2 ⟨rfl, hb⟩
 replace bw := bw.trans (hb.mono bw.size)
 go_wp2
 go_ret2
 exact ⟨rfl, bw⟩
theorem select_k (cs : List Value) (a : RA) (bit : Bool) (k : Int) (w : World) (h : KI w cs a) (hi : I64 k) :
  Calls Tryz.prog 46 #[.agg cs.toArray, .bool bit, .int .i64 k] w fun e w' => e = .returned (.tuple #[.int .i64 (gsX (kOk a) (kBN a) (kBX a) bit k), .int .i64 (gsE (kOk a) (kBN a) (kBX a) bit k)]) ∧ Below w.heap.size w w' := by
 by_cases o8 : kOn a = 2
 ·exact select_r cs a bit k w h hi o8
 by_cases o9 : kOn a = 3
 ·exact select_f cs a bit k w h hi o9
 have ON0 := fun (w0 : World) (hb : Below w.heap.size w w0) => only_c cs a w0 (h.arg.keep hb)
 have HL := Hid.mk8 h.arg.len
 have sm := h.sm
 have gv := h.gv
 replace h := h.arg
 obtain ⟨cp, cr, cf, rfl, hK, h1, h2, h3⟩ := h
 have l4 := Hid.mk8 h1.four
 have l9 := Hid.mk8 h2.nine
 have LP := Hid.mk8 h1.len
 have LR := Hid.mk8 h2.len
 have LF := Hid.mk8 h3.len
 obtain ⟨K, p, r, f⟩ := a
 dsimp only at *
 have k7 : KI7 w cp p := ⟨h1, sm.p1, sm.p2, sm.p3⟩
 have k8 : KI8 w cr r := ⟨h2, sm.r1, sm.r2, sm.r3, sm.r4, gv⟩
 have k9 : KI9 w cf f := ⟨h3, sm.f0, sm.f1, sm.f2⟩
 have ON : Hid (∀ w0, Below w.heap.size w w0 → Calls Tryz.prog 62 #[.agg (Value.int .i64 K :: (cp ++ (cr ++ cf))).toArray] w0 fun e w' => e = .returned (.int .i64 (kOn ⟨K, p, r, f⟩)) ∧ Below w0.heap.size w0 w') := ON0
 clear ON0 h1 h2 h3 sm gv
 obtain ⟨W, hW⟩ : ∃ W, W = w.alloc (.cells (Value.int .i64 K :: (cp ++ (cr ++ cf))).toArray 45) := ⟨_, rfl⟩
 have bw : Below w.heap.size w W := by rw [hW]; exact below_alloc w _
 have B0 := yc1 hW
 subst hW
 by_cases o7 : kOn ⟨K, p, r, f⟩ = 1
 ·skip
  obtain ⟨e1, e2, e3, e4⟩ := on_p o7
  rw [e1, e2, e3]
  rw [o7] at ON
  have C : Hid (∀ w0, Below w.heap.size w w0 → Calls Tryz.prog 81 #[.agg cp.toArray, .bool bit, .int .i64 k] w0 fun e w' => e = .returned (.tuple #[.int .i64 (gsX (kOk7 p) (kBN7 p) (kBX7 p) bit k), .int .i64 (gsE (kOk7 p) (kBN7 p) (kBX7 p) bit k)]) ∧ Below w0.heap.size w0 w') := fun w0 g => select_k7 cp p bit k w0 (k7.keep g) hi
  clear e1 e2 e3 e4 k7 k8 k9
  generalize gsX (kOk7 p) (kBN7 p) (kBX7 p) bit k = P0 at *
  generalize gsE (kOk7 p) (kBN7 p) (kBX7 p) bit k = P1 at *
  go_enter Tryz.func46, Tryz.ntmps46
  go_wp2_with (refine load_obj w.heap.size _ (by rfl) rfl B0 Tryz.underlying45 HL.out ?_)
  refine (ON.out _ bw).mono ?_
  rintro e w1 ⟨rfl, hb⟩
  replace B0 := B0.kept hb
  replace bw := bw.trans (hb.mono bw.size)
  clear hb
  obtain ⟨c0, p1, p2, p3⟩ := parts l4.out l9.out B0
  go_wp2_with (refine load_part w.heap.size 1 cp (by rfl) rfl p1 Tryz.underlying37 LP.out ?_)
  refine (C.out _ bw).mono ?_
  rintro e w2 ⟨rfl, hb⟩
  replace bw := bw.trans (hb.mono bw.size)
  go_wp2
  go_ret2
  exact ⟨rfl, bw⟩
 obtain ⟨e1, e2, e3, e4⟩ := on_n o7 o8 o9
 rw [e1, e2, e3]
 have d7 : (kOn ⟨K, p, r, f⟩ == 1) = false := by simp [o7]
 have d8 : (kOn ⟨K, p, r, f⟩ == 2) = false := by simp [o8]
 have d9 : (kOn ⟨K, p, r, f⟩ == 3) = false := by simp [o9]
 clear e1 e2 e3 e4 k7 k8 k9
 generalize kOn ⟨K, p, r, f⟩ = O at *
 go_enter Tryz.func46, Tryz.ntmps46
 go_wp2_with (refine load_obj w.heap.size _ (by rfl) rfl B0 Tryz.underlying45 HL.out ?_)
 refine (ON.out _ bw).mono ?_
 rintro e w1 ⟨rfl, hb⟩
 replace B0 := B0.kept hb
 replace bw := bw.trans (hb.mono bw.size)
 go_wp2
 go_ret2
 exact ⟨rfl, bw⟩
theorem info_bv : (Tryz.prog.info? 33).map (·.size) = some 2 := by kernel_rfl
theorem bits_r (cs : List Value) (a : RA) (w : World) (h : KI w cs a) (o8 : kOn a = 2) :
  Calls Tryz.prog 49 #[.agg cs.toArray] w fun e w' => ∃ bo bc, e = .returned (.agg #[.int .i64 (kBN a), .slice bo (kBX a).length bc]) ∧ Wd w' bo (kBX a) ∧ (kBX a).length ≤ bc ∧ Below w.heap.size w w' := by
 have ON0 := fun (w0 : World) (hb : Below w.heap.size w w0) => only_c cs a w0 (h.arg.keep hb)
 have HL := Hid.mk8 h.arg.len
 have sm := h.sm
 have gv := h.gv
 replace h := h.arg
 obtain ⟨cp, cr, cf, rfl, hK, h1, h2, h3⟩ := h
 have l4 := Hid.mk8 h1.four
 have l9 := Hid.mk8 h2.nine
 have LP := Hid.mk8 h1.len
 have LR := Hid.mk8 h2.len
 have LF := Hid.mk8 h3.len
 obtain ⟨K, p, r, f⟩ := a
 dsimp only at *
 have k7 : KI7 w cp p := ⟨h1, sm.p1, sm.p2, sm.p3⟩
 have k8 : KI8 w cr r := ⟨h2, sm.r1, sm.r2, sm.r3, sm.r4, gv⟩
 have k9 : KI9 w cf f := ⟨h3, sm.f0, sm.f1, sm.f2⟩
 have ON : Hid (∀ w0, Below w.heap.size w w0 → Calls Tryz.prog 62 #[.agg (Value.int .i64 K :: (cp ++ (cr ++ cf))).toArray] w0 fun e w' => e = .returned (.int .i64 (kOn ⟨K, p, r, f⟩)) ∧ Below w0.heap.size w0 w') := ON0
 clear ON0 h1 h2 h3 sm gv
 have bw : Below w.heap.size w ((w.alloc (.cells (Value.int .i64 K :: (cp ++ (cr ++ cf))).toArray 45)).alloc (.cells #[.int .i64 0, .slice none 0 0] 33)) := (below_alloc w _).alloc (by simp) _
 have B0 : Cel ((w.alloc (.cells (Value.int .i64 K :: (cp ++ (cr ++ cf))).toArray 45)).alloc (.cells #[.int .i64 0, .slice none 0 0] 33)) w.heap.size (Value.int .i64 K :: (cp ++ (cr ++ cf))) 45 := (Cel.new w _ _).alloc _
 have B2 : Cel ((w.alloc (.cells (Value.int .i64 K :: (cp ++ (cr ++ cf))).toArray 45)).alloc (.cells #[.int .i64 0, .slice none 0 0] 33)) (w.heap.size + 1) [.int .i64 0, .slice none 0 0] 33 := Cel.new2 w _ _ _
 obtain ⟨e1, e2, e3, e4⟩ := on_r o8
 rw [e2, e3]
 rw [o8] at ON
 have C : Hid (∀ w0, Below w.heap.size w w0 → Calls Tryz.prog 88 #[.agg cr.toArray] w0 fun e w' => ∃ bo bc, e = .returned (.agg #[.int .i64 (kBN8 r), .slice bo (kBX8 r).length bc]) ∧ Wd w' bo (kBX8 r) ∧ (kBX8 r).length ≤ bc ∧ Below w0.heap.size w0 w') := fun w0 g => bits_k8 cr r w0 (k8.keep g)
 clear e1 e2 e3 e4 k7 k8 k9
 generalize kBN8 r = N at *
 generalize kBX8 r = X at *
 go_enter Tryz.func49, Tryz.ntmps49
 go_wp2_with (refine load_obj w.heap.size _ (by rfl) rfl B0 Tryz.underlying45 HL.out ?_)
 refine (ON.out _ bw).mono ?_
 rintro e w1 ⟨rfl, hb⟩
 replace B0 := B0.kept hb
 replace bw := bw.trans (hb.mono bw.size)
 replace B2 := B2.kept hb
 clear hb
 obtain ⟨c0, p1, p2, p3⟩ := parts l4.out l9.out B0
 go_wp2_with (refine load_part w.heap.size 5 cr (by rfl) rfl p2 Tryz.underlying41 LR.out ?_)
 refine (C.out _ bw).mono ?_
 rintro e w2 ⟨bo, bc, rfl, hx, hbc, hb⟩
 replace bw := bw.trans (hb.mono bw.size)
 replace B2 := B2.kept hb
 clear hb C ON B0 c0 p1 p2 p3
 have hne := hx.apart B2 (by intro v hv n; simp at hv; rcases hv with rfl | rfl <;> simp)
 go_wp2_with (refine store_cel (w.heap.size + 1) _ _ rfl rfl B2 rfl info_bv (by simp [Value.oneCell']) ?_)
 intro w3 B3 O3
 have HZ : Hid (Cel w3 (w.heap.size + 1) [.int .i64 N, .slice bo (List.length X) bc] 33 ∧ Wd w3 bo X ∧ Below w.heap.size w w3) := ⟨B3, O3.wd hx hne, bw.trans (O3.below (Nat.le_succ _))⟩
 clear B3 O3 hx
 go_wp2
 (try simp only [Exit.inBlock, Exit.then])
 exact bodyPost_ret (result_cel1 rfl (w.heap.size + 1) _ rfl HZ.out.1 Tryz.underlying33 info_bv) rfl ⟨bo, bc, rfl, HZ.out.2.1, hbc, HZ.out.2.2⟩
theorem bits_f (cs : List Value) (a : RA) (w : World) (h : KI w cs a) (o9 : kOn a = 3) :
  Calls Tryz.prog 49 #[.agg cs.toArray] w fun e w' => ∃ bo bc, e = .returned (.agg #[.int .i64 (kBN a), .slice bo (kBX a).length bc]) ∧ Wd w' bo (kBX a) ∧ (kBX a).length ≤ bc ∧ Below w.heap.size w w' := by
 have ON0 := fun (w0 : World) (hb : Below w.heap.size w w0) => only_c cs a w0 (h.arg.keep hb)
 have HL := Hid.mk8 h.arg.len
 have sm := h.sm
 have gv := h.gv
 replace h := h.arg
 obtain ⟨cp, cr, cf, rfl, hK, h1, h2, h3⟩ := h
 have l4 := Hid.mk8 h1.four
 have l9 := Hid.mk8 h2.nine
 have LP := Hid.mk8 h1.len
 have LR := Hid.mk8 h2.len
 have LF := Hid.mk8 h3.len
 obtain ⟨K, p, r, f⟩ := a
 dsimp only at *
 have k7 : KI7 w cp p := ⟨h1, sm.p1, sm.p2, sm.p3⟩
 have k8 : KI8 w cr r := ⟨h2, sm.r1, sm.r2, sm.r3, sm.r4, gv⟩
 have k9 : KI9 w cf f := ⟨h3, sm.f0, sm.f1, sm.f2⟩
 have ON : Hid (∀ w0, Below w.heap.size w w0 → Calls Tryz.prog 62 #[.agg (Value.int .i64 K :: (cp ++ (cr ++ cf))).toArray] w0 fun e w' => e = .returned (.int .i64 (kOn ⟨K, p, r, f⟩)) ∧ Below w0.heap.size w0 w') := ON0
 clear ON0 h1 h2 h3 sm gv
 have bw : Below w.heap.size w ((w.alloc (.cells (Value.int .i64 K :: (cp ++ (cr ++ cf))).toArray 45)).alloc (.cells #[.int .i64 0, .slice none 0 0] 33)) := (below_alloc w _).alloc (by simp) _
 have B0 : Cel ((w.alloc (.cells (Value.int .i64 K :: (cp ++ (cr ++ cf))).toArray 45)).alloc (.cells #[.int .i64 0, .slice none 0 0] 33)) w.heap.size (Value.int .i64 K :: (cp ++ (cr ++ cf))) 45 := (Cel.new w _ _).alloc _
 have B2 : Cel ((w.alloc (.cells (Value.int .i64 K :: (cp ++ (cr ++ cf))).toArray 45)).alloc (.cells #[.int .i64 0, .slice none 0 0] 33)) (w.heap.size + 1) [.int .i64 0, .slice none 0 0] 33 := Cel.new2 w _ _ _
 skip
 obtain ⟨e1, e2, e3, e4⟩ := on_f o9
 rw [e2, e3]
 rw [o9] at ON
 have C : Hid (∀ w0, Below w.heap.size w w0 → Calls Tryz.prog 89 #[.agg cf.toArray] w0 fun e w' => ∃ bo bc, e = .returned (.agg #[.int .i64 (kBN9 f), .slice bo (kBX9 f).length bc]) ∧ Wd w' bo (kBX9 f) ∧ (kBX9 f).length ≤ bc ∧ Below w0.heap.size w0 w') := fun w0 g => bits_k9 cf f w0 (k9.keep g)
 clear e1 e2 e3 e4 k7 k8 k9
 generalize kBN9 f = N at *
 generalize kBX9 f = X at *
 go_enter Tryz.func49, Tryz.ntmps49
 go_wp2_with (refine load_obj w.heap.size _ (by rfl) rfl B0 Tryz.underlying45 HL.out ?_)
 refine (ON.out _ bw).mono ?_
 rintro e w1 ⟨rfl, hb⟩
 replace B0 := B0.kept hb
 replace bw := bw.trans (hb.mono bw.size)
 replace B2 := B2.kept hb
 clear hb
 obtain ⟨c0, p1, p2, p3⟩ := parts l4.out l9.out B0
 go_wp2_with (refine load_part w.heap.size 14 cf (by rfl) rfl p3 Tryz.underlying43 LF.out ?_)
 refine (C.out _ bw).mono ?_
 rintro e w2 ⟨bo, bc, rfl, hx, hbc, hb⟩
 replace bw := bw.trans (hb.mono bw.size)
 replace B2 := B2.kept hb
 clear hb C ON B0 c0 p1 p2 p3
 have hne := hx.apart B2 (by intro v hv n; simp at hv; rcases hv with rfl | rfl <;> simp)
 go_wp2_with (refine store_cel (w.heap.size + 1) _ _ rfl rfl B2 rfl info_bv (by simp [Value.oneCell']) ?_)
 intro w3 B3 O3
 have HZ : Hid (Cel w3 (w.heap.size + 1) [.int .i64 N, .slice bo (List.length X) bc] 33 ∧ Wd w3 bo X ∧ Below w.heap.size w w3) := ⟨B3, O3.wd hx hne, bw.trans (O3.below (Nat.le_succ _))⟩
 clear B3 O3 hx
 go_wp2
 (try simp only [Exit.inBlock, Exit.then])
 exact bodyPost_ret (result_cel1 rfl (w.heap.size + 1) _ rfl HZ.out.1 Tryz.underlying33 info_bv) rfl ⟨bo, bc, rfl, HZ.out.2.1, hbc, HZ.out.2.2⟩
theorem bits_k (cs : List Value) (a : RA) (w : World) (h : KI w cs a) :
  Calls Tryz.prog 49 #[.agg cs.toArray] w fun e w' => ∃ bo bc, e = .returned (.agg #[.int .i64 (kBN a), .slice bo (kBX a).length bc]) ∧ Wd w' bo (kBX a) ∧ (kBX a).length ≤ bc ∧ Below w.heap.size w w' := by
 by_cases o8 : kOn a = 2
 ·exact bits_r cs a w h o8
 by_cases o9 : kOn a = 3
 ·exact bits_f cs a w h o9
 have ON0 := fun (w0 : World) (hb : Below w.heap.size w w0) => only_c cs a w0 (h.arg.keep hb)
 have HL := Hid.mk8 h.arg.len
 have sm := h.sm
 have gv := h.gv
 replace h := h.arg
 obtain ⟨cp, cr, cf, rfl, hK, h1, h2, h3⟩ := h
 have l4 := Hid.mk8 h1.four
 have l9 := Hid.mk8 h2.nine
 have LP := Hid.mk8 h1.len
 have LR := Hid.mk8 h2.len
 have LF := Hid.mk8 h3.len
 obtain ⟨K, p, r, f⟩ := a
 dsimp only at *
 have k7 : KI7 w cp p := ⟨h1, sm.p1, sm.p2, sm.p3⟩
 have k8 : KI8 w cr r := ⟨h2, sm.r1, sm.r2, sm.r3, sm.r4, gv⟩
 have k9 : KI9 w cf f := ⟨h3, sm.f0, sm.f1, sm.f2⟩
 have ON : Hid (∀ w0, Below w.heap.size w w0 → Calls Tryz.prog 62 #[.agg (Value.int .i64 K :: (cp ++ (cr ++ cf))).toArray] w0 fun e w' => e = .returned (.int .i64 (kOn ⟨K, p, r, f⟩)) ∧ Below w0.heap.size w0 w') := ON0
 clear ON0 h1 h2 h3 sm gv
 have bw : Below w.heap.size w ((w.alloc (.cells (Value.int .i64 K :: (cp ++ (cr ++ cf))).toArray 45)).alloc (.cells #[.int .i64 0, .slice none 0 0] 33)) := (below_alloc w _).alloc (by simp) _
 have B0 : Cel ((w.alloc (.cells (Value.int .i64 K :: (cp ++ (cr ++ cf))).toArray 45)).alloc (.cells #[.int .i64 0, .slice none 0 0] 33)) w.heap.size (Value.int .i64 K :: (cp ++ (cr ++ cf))) 45 := (Cel.new w _ _).alloc _
 have B2 : Cel ((w.alloc (.cells (Value.int .i64 K :: (cp ++ (cr ++ cf))).toArray 45)).alloc (.cells #[.int .i64 0, .slice none 0 0] 33)) (w.heap.size + 1) [.int .i64 0, .slice none 0 0] 33 := Cel.new2 w _ _ _
 by_cases o7 : kOn ⟨K, p, r, f⟩ = 1
 ·skip
  obtain ⟨e1, e2, e3, e4⟩ := on_p o7
  rw [e2, e3]
  rw [o7] at ON
  have C : Hid (∀ w0, Below w.heap.size w w0 → Calls Tryz.prog 87 #[.agg cp.toArray] w0 fun e w' => ∃ bo bc, e = .returned (.agg #[.int .i64 (kBN7 p), .slice bo (kBX7 p).length bc]) ∧ Wd w' bo (kBX7 p) ∧ (kBX7 p).length ≤ bc ∧ Below w0.heap.size w0 w') := fun w0 g => bits_k7 cp p w0 (k7.keep g)
  clear e1 e2 e3 e4 k7 k8 k9
  generalize kBN7 p = N at *
  generalize kBX7 p = X at *
  go_enter Tryz.func49, Tryz.ntmps49
  go_wp2_with (refine load_obj w.heap.size _ (by rfl) rfl B0 Tryz.underlying45 HL.out ?_)
  refine (ON.out _ bw).mono ?_
  rintro e w1 ⟨rfl, hb⟩
  replace B0 := B0.kept hb
  replace bw := bw.trans (hb.mono bw.size)
  replace B2 := B2.kept hb
  clear hb
  obtain ⟨c0, p1, p2, p3⟩ := parts l4.out l9.out B0
  go_wp2_with (refine load_part w.heap.size 1 cp (by rfl) rfl p1 Tryz.underlying37 LP.out ?_)
  refine (C.out _ bw).mono ?_
  rintro e w2 ⟨bo, bc, rfl, hx, hbc, hb⟩
  replace bw := bw.trans (hb.mono bw.size)
  replace B2 := B2.kept hb
  clear hb C ON B0 c0 p1 p2 p3
  have hne := hx.apart B2 (by intro v hv n; simp at hv; rcases hv with rfl | rfl <;> simp)
  go_wp2_with (refine store_cel (w.heap.size + 1) _ _ rfl rfl B2 rfl info_bv (by simp [Value.oneCell']) ?_)
  intro w3 B3 O3
  have HZ : Hid (Cel w3 (w.heap.size + 1) [.int .i64 N, .slice bo (List.length X) bc] 33 ∧ Wd w3 bo X ∧ Below w.heap.size w w3) := ⟨B3, O3.wd hx hne, bw.trans (O3.below (Nat.le_succ _))⟩
  clear B3 O3 hx
  go_wp2
  (try simp only [Exit.inBlock, Exit.then])
  exact bodyPost_ret (result_cel1 rfl (w.heap.size + 1) _ rfl HZ.out.1 Tryz.underlying33 info_bv) rfl ⟨bo, bc, rfl, HZ.out.2.1, hbc, HZ.out.2.2⟩
 obtain ⟨e1, e2, e3, e4⟩ := on_n o7 o8 o9
 rw [e2, e3]
 have d7 : (kOn ⟨K, p, r, f⟩ == 1) = false := by simp [o7]
 have d8 : (kOn ⟨K, p, r, f⟩ == 2) = false := by simp [o8]
 have d9 : (kOn ⟨K, p, r, f⟩ == 3) = false := by simp [o9]
 clear e1 e2 e3 e4 k7 k8 k9
 generalize kOn ⟨K, p, r, f⟩ = O at *
 go_enter Tryz.func49, Tryz.ntmps49
 go_wp2_with (refine load_obj w.heap.size _ (by rfl) rfl B0 Tryz.underlying45 HL.out ?_)
 refine (ON.out _ bw).mono ?_
 rintro e w1 ⟨rfl, hb⟩
 replace B0 := B0.kept hb
 replace bw := bw.trans (hb.mono bw.size)
 replace B2 := B2.kept hb
 clear hb ON B0
 go_wp2_with (refine store_cel (w.heap.size + 1) _ _ rfl rfl B2 rfl info_bv (by simp [Value.oneCell']) ?_)
 intro w3 B3 O3
 have HZ : Hid (Cel w3 (w.heap.size + 1) [.int .i64 0, .slice none 0 0] 33 ∧ Below w.heap.size w w3) := ⟨B3, bw.trans (O3.below (Nat.le_succ _))⟩
 clear B3 O3
 go_wp2
 (try simp only [Exit.inBlock, Exit.then])
 exact bodyPost_ret (result_cel1 rfl (w.heap.size + 1) _ rfl HZ.out.1 Tryz.underlying33 info_bv) rfl ⟨none, 0, rfl, wd0' _ _, Nat.le_refl _, HZ.out.2⟩
theorem Only.nd {g base : Nat} {w w' : World} {ao : Option Addr} {l : List Int} (h : Only g w w') (hx : Nd w ao l) (hf : Fr base ao) (hg : g < base) : Nd w' ao l := by
 intro h0
 obtain ⟨b, off, rfl, hlt, hc⟩ := hx h0
 have hne : base ≤ b := hf _ rfl
 exact ⟨b, off, rfl, by rw [h.size]; exact hlt, fun i hi => (h.cell (p := ⟨b, off + i, none⟩) (show b ≠ g by omega)).trans (hc i hi)⟩
def Nou (cs : List Value) : Prop := ∀ v ∈ cs, ∀ n, v ≠ .int .u64 n
theorem Nou.app {a b : List Value} (h : Nou a) (g : Nou b) : Nou (a ++ b) := fun v hv n => by
 rcases List.mem_append.1 hv with e | e
 ·exact h v e n
 ·exact g v e n
theorem KArg7.nou {w : World} {cs : List Value} {a : RA7} (h : KArg7 w cs a) : Nou cs := by
 obtain ⟨ao, cap, so, sc, tO, tc, rfl, _⟩ := h
 intro v hv n
 simp at hv
 rcases hv with rfl | rfl | rfl | rfl <;> simp
theorem KArg8.nou {w : World} {cs : List Value} {a : RA8} (h : KArg8 w cs a) : Nou cs := by
 obtain ⟨ao, cap, qo, dap, so, sc, tO, tc, rfl, _⟩ := h
 intro v hv n
 simp at hv
 rcases hv with rfl | rfl | rfl | rfl | rfl | rfl | rfl | rfl | rfl <;> simp
theorem KArg9.nou {w : World} {cs : List Value} {a : RA9} (h : KArg9 w cs a) : Nou cs := by
 obtain ⟨ao, cap, qo, dap, rfl, _⟩ := h
 intro v hv n
 simp at hv
 rcases hv with rfl | rfl | rfl | rfl | rfl | rfl | rfl | rfl <;> simp
theorem KI7.only {w w2 : World} {g base : Nat} {cs gs : List Value} {a : RA7} {T : TypeId} (h : KI7 w cs a) (nf : NF base 2 cs) (hg : g < base) (hc : Cel w g gs T) (hn : Nou gs) (hO : Only g w w2) : KI7 w2 cs a := by
 obtain ⟨⟨ao, cap, so, sc, tO, tc, rfl, h⟩, xl, sl, tl⟩ := h
 exact ⟨⟨ao, cap, so, sc, tO, tc, rfl, ⟨h.n, hO.wd h.x (h.x.apart hc hn), h.f, h.c, hO.nd h.s (nf _ _ _ (.inl rfl)) hg, h.sf, h.sc, hO.nd h.t (nf _ _ _ (.inr rfl)) hg, h.tf, h.tc⟩⟩, xl, sl, tl⟩
theorem KI8.only {w w2 : World} {g base : Nat} {cs gs : List Value} {a : RA8} {T : TypeId} (h : KI8 w cs a) (nf : NF base 7 cs) (hg : g < base) (hc : Cel w g gs T) (hn : Nou gs) (hO : Only g w w2) (G2 : GV w2) : KI8 w2 cs a := by
 obtain ⟨⟨ao, cap, qo, dap, so, sc, tO, tc, rfl, r, a1, a2, a3, a4, a5, a6, a7, a8, a9, a10⟩, xl, yl, sl, tl, _⟩ := h
 exact ⟨⟨ao, cap, qo, dap, so, sc, tO, tc, rfl, r, hO.wd a1 (a1.apart hc hn), a2, a3, hO.wd a4 (a4.apart hc hn), a5, a6, hO.nd a7 (nf _ _ _ (.inl rfl)) hg, a8, hO.nd a9 (nf _ _ _ (.inr rfl)) hg, a10⟩, xl, yl, sl, tl, G2⟩
theorem KI9.only {w w2 : World} {g : Nat} {cs gs : List Value} {a : RA9} {T : TypeId} (h : KI9 w cs a) (hc : Cel w g gs T) (hn : Nou gs) (hO : Only g w w2) : KI9 w2 cs a := by
 obtain ⟨⟨ao, cap, qo, dap, rfl, r, a1, a2, a3, a4, a5, a6⟩, n3, xl, yl⟩ := h
 exact ⟨⟨ao, cap, qo, dap, rfl, r, hO.wd a1 (a1.apart hc hn), a2, a3, hO.wd a4 (a4.apart hc hn), a5, a6⟩, n3, xl, yl⟩
theorem i64_0 : I64 0 := ⟨by decide, by decide⟩
theorem z7arg (w : World) : KI7 w [Value.int .i64 0, .slice none 0 0, .slice none 0 0, .slice none 0 0] n7 := ⟨⟨none, 0, none, 0, none, 0, rfl, ⟨i64_0, wd0' _ _, fit_nil, Nat.le_refl _, nd0 _ _, fitI_nil, Nat.le_refl _, nd0 _ _, fitI_nil, Nat.le_refl _⟩⟩, Nat.zero_le _, Nat.zero_le _, Nat.zero_le _⟩
theorem z8a (w : World) : KArg8 w [Value.int .i64 0, .int .i64 0, .int .i64 0, .int .i64 0, .slice none 0 0, .int .i64 0, .slice none 0 0, .slice none 0 0, .slice none 0 0] n8 := ⟨none, 0, none, 0, none, 0, none, 0, rfl, ⟨i64_0, i64_0, i64_0, i64_0, i64_0, fitI_nil, fitI_nil⟩, wd0' _ _, fit_nil, Nat.le_refl _, wd0' _ _, fit_nil, Nat.le_refl _, nd0 _ _, Nat.le_refl _, nd0 _ _, Nat.le_refl _⟩
theorem z8arg (w : World) (G : GV w) : KI8 w [Value.int .i64 0, .int .i64 0, .int .i64 0, .int .i64 0, .slice none 0 0, .int .i64 0, .slice none 0 0, .slice none 0 0, .slice none 0 0] n8 := ⟨z8a w, Nat.zero_le _, Nat.zero_le _, Nat.zero_le _, Nat.zero_le _, G⟩
theorem z9arg (w : World) : KI9 w [Value.int .i64 0, .int .i64 0, .int .i64 0, .int .i64 0, .int .i64 0, .slice none 0 0, .int .i64 0, .slice none 0 0] n9 := ⟨⟨none, 0, none, 0, rfl, ⟨i64_0, i64_0, i64_0, i64_0, i64_0, i64_0⟩, wd0' _ _, fit_nil, Nat.le_refl _, wd0' _ _, fit_nil, Nat.le_refl _⟩, by decide, Nat.zero_le _, Nat.zero_le _⟩
theorem ki_mk {w : World} {cp cr cf : List Value} {K : Int} {p : RA7} {r : RA8} {f : RA9} (hK : I64 K) (h1 : KI7 w cp p) (h2 : KI8 w cr r) (h3 : KI9 w cf f) : KI w (.int .i64 K :: (cp ++ (cr ++ cf))) ⟨K, p, r, f⟩ :=
 ⟨⟨cp, cr, cf, rfl, hK, h1.arg, h2.arg, h3.arg⟩, ⟨h1.xl, h1.sl, h1.tl, h2.xl, h2.yl, h2.sl, h2.tl, h3.n3, h3.xl, h3.yl⟩, h2.gv⟩
theorem ka_mk {w : World} {cp cr cf : List Value} {K : Int} {p : RA7} {r : RA8} {f : RA9} (hK : I64 K) (h1 : KArg7 w cp p) (h2 : KArg8 w cr r) (h3 : KArg9 w cf f) : KArg w (.int .i64 K :: (cp ++ (cr ++ cf))) ⟨K, p, r, f⟩ := ⟨cp, cr, cf, rfl, hK, h1, h2, h3⟩
theorem nou_mk {cp cr cf : List Value} {K : Int} (h1 : Nou cp) (h2 : Nou cr) (h3 : Nou cf) : Nou (.int .i64 K :: (cp ++ (cr ++ cf))) := fun v hv n => by
 rcases List.mem_cons.1 hv with rfl | e
 ·simp
 ·exact (h1.app (h2.app h3)) v e n
theorem cel_cells {w : World} {g : Nat} {T : TypeId} : ∀ (cs pre old post : List Value), old.length = cs.length → Cel w g (pre ++ (old ++ post)) T → Cel (w.setCells g pre.length cs) g (pre ++ (cs ++ post)) T ∧ Only g w (w.setCells g pre.length cs) := by
 intro cs
 induction cs generalizing w with
 | nil =>
  intro pre old post hl h
  obtain rfl := List.eq_nil_of_length_eq_zero hl
  exact ⟨h, Only.refl _ _⟩
 | cons v r ih =>
  intro pre old post hl h
  match old, hl with
  | u :: o, hl =>
   have h2 : Cel (w.setCell ⟨g, pre.length, none⟩ v) g ((pre ++ [v]) ++ (o ++ post)) T := by
    have := h.set pre.length v
    have e : (pre ++ (u :: o ++ post)).set pre.length v = (pre ++ [v]) ++ (o ++ post) := by
     rw [List.set_append_right _ _ (Nat.le_refl _), Nat.sub_self]
     simp
    rw [e] at this
    exact this
   have k := ih (pre ++ [v]) o post (by simpa using hl) h2
   rw [List.length_append, List.length_singleton] at k
   refine ⟨?_, ((Only.refl g w).set pre.length v).trans k.2⟩
   have k1 := k.1
   rw [List.append_assoc] at k1
   exact k1
theorem store_part {ops : Array Oper} {rest : List Oper} {d : Option Tmp} {ty T TT : TypeId} {ps : String} {af : Array Edge} {a : Act} {w : World} {Q : Exit → Act → World → Prop} {x y : Operand}
  (g : Nat) (pre old post cs : List Value) (hx : a.eval x = .pointer (some ⟨g, pre.length, none⟩)) (hy : a.eval y = .agg cs.toArray) (hc : Cel w g (pre ++ (old ++ post)) TT) (lo : old.length = cs.length) (hi : (Tryz.prog.info? T).map (·.size) = some cs.length) (h1 : cs.toArray.all (·.oneCell') = true)
  (h : ∀ w1, Cel w1 g (pre ++ (cs ++ post)) TT → Only g w w1 → wpList Tryz.prog ops Q rest (a.put d undef) w1) :
  wpList Tryz.prog ops Q (⟨d, .store T x y, ty, ps, af, none⟩ :: rest) a w := by
 refine wpList_store_mid rfl T x y rfl g pre.length cs.toArray hx hy ?_ (by simpa using hi) h1 ?_
 ·intro j hj
  have hj : j < cs.length := by simpa using hj
  have hl : pre.length + j < (pre ++ (old ++ post)).length := by simp only [List.length_append]; omega
  exact ⟨by rw [hc.cell (pre.length + j) (List.getElem?_eq_getElem hl)]; rfl, hc.frozen _⟩
 ·have k := cel_cells cs pre old post lo hc
  exact h _ k.1 k.2
theorem NF.mono {base b0 i : Nat} {cs : List Value} (h : NF base i cs) (hl : b0 ≤ base) : NF b0 i cs := fun ao n c e a ha => Nat.le_trans hl (h ao n c e a ha)
theorem NF.mid {base i j : Nat} {pre cs post : List Value} (h : NF base i cs) (hl : i + 2 ≤ cs.length) (hj : j = pre.length + i) : NF base j (pre ++ (cs ++ post)) := fun ao n c e => by
 subst hj
 refine h ao n c ?_
 have k : ∀ q, q < cs.length → (pre ++ (cs ++ post))[pre.length + q]? = cs[q]? := fun q hq => by
  rw [List.getElem?_append_right (by omega), List.getElem?_append_left (by omega), show pre.length + q - pre.length = q by omega]
 rw [k i (by omega), show pre.length + i + 1 = pre.length + (i + 1) by omega, k (i + 1) (by omega)] at e
 exact e
def NFV (base : Nat) (cs : List Value) : Prop := NF base 3 cs ∧ NF base 12 cs
theorem build_r (N : Int) (ao : Option Addr) (xs : List Nat) (cap : Nat) (w : World) (hN : I64 N) (hx : Wd w ao xs) (hf : Fit xs) (hcap : xs.length ≤ cap) (hl : N ≤ 3000 ∧ xs.length ≤ 1048576) (GG : GV w) :
  Calls Tryz.prog 27 #[.int .i64 2, .agg #[.int .i64 N, .slice ao xs.length cap]] w fun e w' => ∃ cs : List Value, e = .returned (.tuple #[.agg cs.toArray, .int .i64 (kE 2 N xs)]) ∧ KI w' cs (kB 2 N xs) ∧ Below w.heap.size w w' ∧ NFV w.heap.size cs := by
 obtain ⟨W, hW⟩ : ∃ W, W = ((w.alloc (.cells #[.int .i64 N, .slice ao xs.length cap] 33)).alloc (.cells [Value.int .i64 0, .int .i64 0, .slice none 0 0, .slice none 0 0, .slice none 0 0, .int .i64 0, .int .i64 0, .int .i64 0, .int .i64 0, .slice none 0 0, .int .i64 0, .slice none 0 0, .slice none 0 0, .slice none 0 0, .int .i64 0, .int .i64 0, .int .i64 0, .int .i64 0, .int .i64 0, .slice none 0 0, .int .i64 0, .slice none 0 0].toArray 45)).alloc (.cells [Value.int .i64 0, .int .i64 0, .slice none 0 0, .slice none 0 0, .slice none 0 0, .int .i64 0, .int .i64 0, .int .i64 0, .int .i64 0, .slice none 0 0, .int .i64 0, .slice none 0 0, .slice none 0 0, .slice none 0 0, .int .i64 0, .int .i64 0, .int .i64 0, .int .i64 0, .int .i64 0, .slice none 0 0, .int .i64 0, .slice none 0 0].toArray 45) := ⟨_, rfl⟩
 have bw : Below w.heap.size w W := by rw [hW]; exact ((below_alloc w _).alloc (by simp) _).alloc (by simp; omega) _
 have B0 : Cel W w.heap.size [.int .i64 N, .slice ao xs.length cap] 33 := by rw [hW]; exact ((Cel.new w _ _).alloc _).alloc _
 have B4 : Cel W (w.heap.size + 1) [Value.int .i64 0, .int .i64 0, .slice none 0 0, .slice none 0 0, .slice none 0 0, .int .i64 0, .int .i64 0, .int .i64 0, .int .i64 0, .slice none 0 0, .int .i64 0, .slice none 0 0, .slice none 0 0, .slice none 0 0, .int .i64 0, .int .i64 0, .int .i64 0, .int .i64 0, .int .i64 0, .slice none 0 0, .int .i64 0, .slice none 0 0] 45 := by rw [hW]; exact (Cel.new2 w _ _ _).alloc _
 have B6 : Cel W (w.heap.size + 2) [Value.int .i64 0, .int .i64 0, .slice none 0 0, .slice none 0 0, .slice none 0 0, .int .i64 0, .int .i64 0, .int .i64 0, .int .i64 0, .slice none 0 0, .int .i64 0, .slice none 0 0, .slice none 0 0, .slice none 0 0, .int .i64 0, .int .i64 0, .int .i64 0, .int .i64 0, .int .i64 0, .slice none 0 0, .int .i64 0, .slice none 0 0] 45 := by rw [hW]; exact (Cel.new2 (w.alloc _) _ _ _).at (by simp)
 have hIV := Hid.mk8 info_v
 have H8 : Hid (∀ w0, Below w.heap.size w w0 → Calls Tryz.prog 53 #[.agg #[.int .i64 N, .slice ao xs.length cap]] w0 fun e w' => ∃ cs : List Value, e = .returned (.tuple #[.agg cs.toArray, .int .i64 (kE8 N xs)]) ∧ KI8 w' cs (kB8 N xs) ∧ NF w0.heap.size 7 cs ∧ Below w0.heap.size w0 w') := fun w0 h => build_k8 N ao xs cap w0 hN (hx.keep h) hf hcap hl.2 (GG.kept h)
 subst hW
 have hK : I64 2 := by unfold I64; decide
 have eE : kE 2 N xs = kE8 N xs := rfl
 rw [eE]
 by_cases z : kE8 N xs = 0
 ·have ew : kB 2 N xs = ⟨2, n7, kB8 N xs, n9⟩ := kB_r N xs z
  rw [z] at H8 ⊢
  clear eE z
  go_enter Tryz.func27, Tryz.ntmps27
  go_wp2_with (refine store_cel (w.heap.size + 2) _ _ rfl rfl B6 rfl hIV.out (by simp [Value.oneCell']) ?_)
  intro w1 B6 O1
  replace B0 := O1.cel B0 (by omega)
  replace B4 := O1.cel B4 (by omega)
  replace bw := bw.trans (O1.below (by omega))
  clear O1
  have r0 := B0.cell 0 rfl
  have r1 := B0.cell 1 rfl
  go_wp2_with fail
  refine (H8.out _ bw).mono ?_
  rintro e w2 ⟨cs, rfl, hP, hN2, hb⟩
  have sz := B6.lt
  have sz2 := hb.size
  replace B4 := B4.kept hb
  replace B6 := B6.kept hb
  replace bw := bw.trans (hb.mono bw.size)
  clear hb r0 r1 B0
  go_wp2_with (refine store_part (w.heap.size + 2) (Value.int .i64 2 :: [Value.int .i64 0, .slice none 0 0, .slice none 0 0, .slice none 0 0]) [Value.int .i64 0, .int .i64 0, .int .i64 0, .int .i64 0, .slice none 0 0, .int .i64 0, .slice none 0 0, .slice none 0 0, .slice none 0 0] [Value.int .i64 0, .int .i64 0, .int .i64 0, .int .i64 0, .int .i64 0, .slice none 0 0, .int .i64 0, .slice none 0 0] cs rfl rfl B6 hP.arg.nine hP.arg.len hP.arg.one ?_)
  intro w3 B7 O3
  have hQ := hP.only hN2 (by omega) B6 (nou_mk (z7arg w).arg.nou (z8a w).nou (z9arg w).arg.nou) O3 (GG.kept (bw.trans (O3.below (by omega))))
  replace B4 := O3.cel B4 (by omega)
  replace bw := bw.trans (O3.below (by omega))
  have B8 : Cel w3 (w.heap.size + 2) (Value.int .i64 2 :: ([Value.int .i64 0, .slice none 0 0, .slice none 0 0, .slice none 0 0] ++ (cs ++ [Value.int .i64 0, .int .i64 0, .int .i64 0, .int .i64 0, .int .i64 0, .slice none 0 0, .int .i64 0, .slice none 0 0]))) 45 := B7
  have HL := Hid.mk8 (ki_mk hK (z7arg w3) hQ (z9arg w3)).arg.len
  have H1 := Hid.mk8 (ki_mk hK (z7arg w3) hQ (z9arg w3)).arg.one
  have H9 := Hid.mk8 (ki_mk hK (z7arg w3) hQ (z9arg w3)).arg.nine
  have HNF : Hid (NFV w.heap.size (Value.int .i64 2 :: ([Value.int .i64 0, .slice none 0 0, .slice none 0 0, .slice none 0 0] ++ (cs ++ [Value.int .i64 0, .int .i64 0, .int .i64 0, .int .i64 0, .int .i64 0, .slice none 0 0, .int .i64 0, .slice none 0 0])))) := ⟨nf_mk (fr0 _) (fr0 _), (hN2.mono (by omega)).mid (pre := Value.int .i64 2 :: [Value.int .i64 0, .slice none 0 0, .slice none 0 0, .slice none 0 0]) (by have := H9.out; have := hQ.arg.nine; omega) rfl⟩
  have HQ := Hid.mk8 (And.intro hQ hN2)
  clear B7 O3 B6 hP hN2 hQ
  go_wp2_with (first | refine load_obj (w.heap.size + 2) _ (by rfl) rfl B8 Tryz.underlying45 HL.out ?_ | refine store_cel (w.heap.size + 1) _ _ rfl rfl B4 H9.out HL.out H1.out ?_)
  intro w9 B9 O9
  have HZ := Hid.mk8 (And.intro B9 (And.intro (ki_mk hK (z7arg w9) (HQ.out.1.only HQ.out.2 (by omega) B4 (nou_mk (z7arg w).arg.nou (z8a w).nou (z9arg w).arg.nou) O9 (GG.kept (bw.trans (O9.below (by omega))))) (z9arg w9)) (bw.trans (O9.below (by omega)))))
  clear B9 O9 B8 B4 HQ
  go_wp2
  (try simp only [Exit.inBlock, Exit.then])
  refine bodyPost_ret (result_cel rfl (w.heap.size + 1) _ rfl HZ.out.1 Tryz.underlying45 HL.out) rfl ⟨_, rfl, ?_, HZ.out.2.2, HNF.out⟩
  rw [ew]
  exact HZ.out.2.1
 ·have ew : kB 2 N xs = ⟨0, n7, n8, n9⟩ := kB_none 2 N xs (by rw [eE]; exact z)
  have zz : (kE8 N xs != 0) = true := by simp [z]
  clear eE z
  generalize kE8 N xs = E1 at *
  go_enter Tryz.func27, Tryz.ntmps27
  go_wp2_with (refine store_cel (w.heap.size + 2) _ _ rfl rfl B6 rfl hIV.out (by simp [Value.oneCell']) ?_)
  intro w1 B6 O1
  replace B0 := O1.cel B0 (by omega)
  replace B4 := O1.cel B4 (by omega)
  replace bw := bw.trans (O1.below (by omega))
  clear O1
  have r0 := B0.cell 0 rfl
  have r1 := B0.cell 1 rfl
  go_wp2_with fail
  refine (H8.out _ bw).mono ?_
  rintro e w2 ⟨cs, rfl, hP, hN2, hb⟩
  have sz := B6.lt
  have sz2 := hb.size
  replace B4 := B4.kept hb
  replace B6 := B6.kept hb
  replace bw := bw.trans (hb.mono bw.size)
  clear hb r0 r1 B0
  go_wp2_with (refine store_part (w.heap.size + 2) (Value.int .i64 2 :: [Value.int .i64 0, .slice none 0 0, .slice none 0 0, .slice none 0 0]) [Value.int .i64 0, .int .i64 0, .int .i64 0, .int .i64 0, .slice none 0 0, .int .i64 0, .slice none 0 0, .slice none 0 0, .slice none 0 0] [Value.int .i64 0, .int .i64 0, .int .i64 0, .int .i64 0, .int .i64 0, .slice none 0 0, .int .i64 0, .slice none 0 0] cs rfl rfl B6 hP.arg.nine hP.arg.len hP.arg.one ?_)
  intro w3 B7 O3
  replace B4 := O3.cel B4 (by omega)
  replace bw := bw.trans (O3.below (by omega))
  clear B7 O3 B6 hP hN2
  go_wp2_with (refine store_cel (w.heap.size + 1) _ _ rfl rfl B4 rfl hIV.out (by simp [Value.oneCell']) ?_)
  intro w9 B9 O9
  have HZ := Hid.mk8 (And.intro B9 (bw.trans (O9.below (by omega))))
  clear B9 O9
  go_wp2
  (try simp only [Exit.inBlock, Exit.then])
  refine bodyPost_ret (result_cel rfl (w.heap.size + 1) _ rfl HZ.out.1 Tryz.underlying45 hIV.out) rfl ⟨_, rfl, ?_, HZ.out.2, nf_mk (fr0 _) (fr0 _), nf_mk (fr0 _) (fr0 _)⟩
  rw [ew]
  exact ki_mk i64_0 (z7arg _) (z8arg _ (GG.kept HZ.out.2)) (z9arg _)
theorem build_f (N : Int) (ao : Option Addr) (xs : List Nat) (cap : Nat) (w : World) (hN : I64 N) (hx : Wd w ao xs) (hf : Fit xs) (hcap : xs.length ≤ cap) (hl : N ≤ 3000 ∧ xs.length ≤ 1048576) (GG : GV w) :
  Calls Tryz.prog 27 #[.int .i64 3, .agg #[.int .i64 N, .slice ao xs.length cap]] w fun e w' => ∃ cs : List Value, e = .returned (.tuple #[.agg cs.toArray, .int .i64 (kE 3 N xs)]) ∧ KI w' cs (kB 3 N xs) ∧ Below w.heap.size w w' ∧ NFV w.heap.size cs := by
 obtain ⟨W, hW⟩ : ∃ W, W = ((w.alloc (.cells #[.int .i64 N, .slice ao xs.length cap] 33)).alloc (.cells [Value.int .i64 0, .int .i64 0, .slice none 0 0, .slice none 0 0, .slice none 0 0, .int .i64 0, .int .i64 0, .int .i64 0, .int .i64 0, .slice none 0 0, .int .i64 0, .slice none 0 0, .slice none 0 0, .slice none 0 0, .int .i64 0, .int .i64 0, .int .i64 0, .int .i64 0, .int .i64 0, .slice none 0 0, .int .i64 0, .slice none 0 0].toArray 45)).alloc (.cells [Value.int .i64 0, .int .i64 0, .slice none 0 0, .slice none 0 0, .slice none 0 0, .int .i64 0, .int .i64 0, .int .i64 0, .int .i64 0, .slice none 0 0, .int .i64 0, .slice none 0 0, .slice none 0 0, .slice none 0 0, .int .i64 0, .int .i64 0, .int .i64 0, .int .i64 0, .int .i64 0, .slice none 0 0, .int .i64 0, .slice none 0 0].toArray 45) := ⟨_, rfl⟩
 have bw : Below w.heap.size w W := by rw [hW]; exact ((below_alloc w _).alloc (by simp) _).alloc (by simp; omega) _
 have B0 : Cel W w.heap.size [.int .i64 N, .slice ao xs.length cap] 33 := by rw [hW]; exact ((Cel.new w _ _).alloc _).alloc _
 have B4 : Cel W (w.heap.size + 1) [Value.int .i64 0, .int .i64 0, .slice none 0 0, .slice none 0 0, .slice none 0 0, .int .i64 0, .int .i64 0, .int .i64 0, .int .i64 0, .slice none 0 0, .int .i64 0, .slice none 0 0, .slice none 0 0, .slice none 0 0, .int .i64 0, .int .i64 0, .int .i64 0, .int .i64 0, .int .i64 0, .slice none 0 0, .int .i64 0, .slice none 0 0] 45 := by rw [hW]; exact (Cel.new2 w _ _ _).alloc _
 have B6 : Cel W (w.heap.size + 2) [Value.int .i64 0, .int .i64 0, .slice none 0 0, .slice none 0 0, .slice none 0 0, .int .i64 0, .int .i64 0, .int .i64 0, .int .i64 0, .slice none 0 0, .int .i64 0, .slice none 0 0, .slice none 0 0, .slice none 0 0, .int .i64 0, .int .i64 0, .int .i64 0, .int .i64 0, .int .i64 0, .slice none 0 0, .int .i64 0, .slice none 0 0] 45 := by rw [hW]; exact (Cel.new2 (w.alloc _) _ _ _).at (by simp)
 have hIV := Hid.mk8 info_v
 have H9 : Hid (∀ w0, Below w.heap.size w w0 → Calls Tryz.prog 54 #[.agg #[.int .i64 N, .slice ao xs.length cap]] w0 fun e w' => ∃ cs : List Value, e = .returned (.tuple #[.agg cs.toArray, .int .i64 (kE9 N xs)]) ∧ KI9 w' cs (kB9 N xs) ∧ Below w0.heap.size w0 w') := fun w0 h => build_k9 N ao xs cap w0 hN (hx.keep h) hf hcap hl
 subst hW
 have hK : I64 3 := by unfold I64; decide
 have eE : kE 3 N xs = kE9 N xs := rfl
 rw [eE]
 by_cases z : kE9 N xs = 0
 ·have ew : kB 3 N xs = ⟨3, n7, n8, kB9 N xs⟩ := kB_f N xs z
  rw [z] at H9 ⊢
  clear eE z
  go_enter Tryz.func27, Tryz.ntmps27
  go_wp2_with (refine store_cel (w.heap.size + 2) _ _ rfl rfl B6 rfl hIV.out (by simp [Value.oneCell']) ?_)
  intro w1 B6 O1
  replace B0 := O1.cel B0 (by omega)
  replace B4 := O1.cel B4 (by omega)
  replace bw := bw.trans (O1.below (by omega))
  clear O1
  have r0 := B0.cell 0 rfl
  have r1 := B0.cell 1 rfl
  go_wp2_with fail
  refine (H9.out _ bw).mono ?_
  rintro e w2 ⟨cs, rfl, hP, hb⟩
  have sz := B6.lt
  have sz2 := hb.size
  replace B4 := B4.kept hb
  replace B6 := B6.kept hb
  replace bw := bw.trans (hb.mono bw.size)
  clear hb r0 r1 B0
  go_wp2_with (refine store_part (w.heap.size + 2) (Value.int .i64 3 :: ([Value.int .i64 0, .slice none 0 0, .slice none 0 0, .slice none 0 0] ++ [Value.int .i64 0, .int .i64 0, .int .i64 0, .int .i64 0, .slice none 0 0, .int .i64 0, .slice none 0 0, .slice none 0 0, .slice none 0 0])) [Value.int .i64 0, .int .i64 0, .int .i64 0, .int .i64 0, .int .i64 0, .slice none 0 0, .int .i64 0, .slice none 0 0] [] cs rfl rfl B6 hP.arg.nine hP.arg.len hP.arg.one ?_)
  intro w3 B7 O3
  have hQ := hP.only B6 (nou_mk (z7arg w).arg.nou (z8a w).nou (z9arg w).arg.nou) O3
  replace B4 := O3.cel B4 (by omega)
  replace bw := bw.trans (O3.below (by omega))
  have B8 : Cel w3 (w.heap.size + 2) (Value.int .i64 3 :: ([Value.int .i64 0, .slice none 0 0, .slice none 0 0, .slice none 0 0] ++ ([Value.int .i64 0, .int .i64 0, .int .i64 0, .int .i64 0, .slice none 0 0, .int .i64 0, .slice none 0 0, .slice none 0 0, .slice none 0 0] ++ cs))) 45 := by simpa using B7
  have HL := Hid.mk8 (ka_mk hK (z7arg w3).arg (z8a w3) hQ.arg).len
  have H1 := Hid.mk8 (ka_mk hK (z7arg w3).arg (z8a w3) hQ.arg).one
  have H9 := Hid.mk8 (ka_mk hK (z7arg w3).arg (z8a w3) hQ.arg).nine
  have HNF : Hid (NFV w.heap.size (Value.int .i64 3 :: ([Value.int .i64 0, .slice none 0 0, .slice none 0 0, .slice none 0 0] ++ ([Value.int .i64 0, .int .i64 0, .int .i64 0, .int .i64 0, .slice none 0 0, .int .i64 0, .slice none 0 0, .slice none 0 0, .slice none 0 0] ++ cs)))) := ⟨nf_mk (fr0 _) (fr0 _), nf_mk (fr0 _) (fr0 _)⟩
  have HQ := Hid.mk8 (And.intro hQ trivial)
  clear B7 O3 B6 hP hQ
  go_wp2_with (first | refine load_obj (w.heap.size + 2) _ (by rfl) rfl B8 Tryz.underlying45 HL.out ?_ | refine store_cel (w.heap.size + 1) _ _ rfl rfl B4 H9.out HL.out H1.out ?_)
  intro w9 B9 O9
  have HZ := Hid.mk8 (And.intro B9 (And.intro (ki_mk hK (z7arg w9) (z8arg w9 (GG.kept (bw.trans (O9.below (by omega))))) (HQ.out.1.only B4 (nou_mk (z7arg w).arg.nou (z8a w).nou (z9arg w).arg.nou) O9)) (bw.trans (O9.below (by omega)))))
  clear B9 O9 B8 B4 HQ
  go_wp2
  (try simp only [Exit.inBlock, Exit.then])
  refine bodyPost_ret (result_cel rfl (w.heap.size + 1) _ rfl HZ.out.1 Tryz.underlying45 HL.out) rfl ⟨_, rfl, ?_, HZ.out.2.2, HNF.out⟩
  rw [ew]
  exact HZ.out.2.1
 ·have ew : kB 3 N xs = ⟨0, n7, n8, n9⟩ := kB_none 3 N xs (by rw [eE]; exact z)
  have zz : (kE9 N xs != 0) = true := by simp [z]
  clear eE z
  generalize kE9 N xs = E1 at *
  go_enter Tryz.func27, Tryz.ntmps27
  go_wp2_with (refine store_cel (w.heap.size + 2) _ _ rfl rfl B6 rfl hIV.out (by simp [Value.oneCell']) ?_)
  intro w1 B6 O1
  replace B0 := O1.cel B0 (by omega)
  replace B4 := O1.cel B4 (by omega)
  replace bw := bw.trans (O1.below (by omega))
  clear O1
  have r0 := B0.cell 0 rfl
  have r1 := B0.cell 1 rfl
  go_wp2_with fail
  refine (H9.out _ bw).mono ?_
  rintro e w2 ⟨cs, rfl, hP, hb⟩
  have sz := B6.lt
  have sz2 := hb.size
  replace B4 := B4.kept hb
  replace B6 := B6.kept hb
  replace bw := bw.trans (hb.mono bw.size)
  clear hb r0 r1 B0
  go_wp2_with (refine store_part (w.heap.size + 2) (Value.int .i64 3 :: ([Value.int .i64 0, .slice none 0 0, .slice none 0 0, .slice none 0 0] ++ [Value.int .i64 0, .int .i64 0, .int .i64 0, .int .i64 0, .slice none 0 0, .int .i64 0, .slice none 0 0, .slice none 0 0, .slice none 0 0])) [Value.int .i64 0, .int .i64 0, .int .i64 0, .int .i64 0, .int .i64 0, .slice none 0 0, .int .i64 0, .slice none 0 0] [] cs rfl rfl B6 hP.arg.nine hP.arg.len hP.arg.one ?_)
  intro w3 B7 O3
  replace B4 := O3.cel B4 (by omega)
  replace bw := bw.trans (O3.below (by omega))
  clear B7 O3 B6 hP
  go_wp2_with (refine store_cel (w.heap.size + 1) _ _ rfl rfl B4 rfl hIV.out (by simp [Value.oneCell']) ?_)
  intro w9 B9 O9
  have HZ := Hid.mk8 (And.intro B9 (bw.trans (O9.below (by omega))))
  clear B9 O9
  go_wp2
  (try simp only [Exit.inBlock, Exit.then])
  refine bodyPost_ret (result_cel rfl (w.heap.size + 1) _ rfl HZ.out.1 Tryz.underlying45 hIV.out) rfl ⟨_, rfl, ?_, HZ.out.2, nf_mk (fr0 _) (fr0 _), nf_mk (fr0 _) (fr0 _)⟩
  rw [ew]
  exact ki_mk i64_0 (z7arg _) (z8arg _ (GG.kept HZ.out.2)) (z9arg _)
theorem build_k (k N : Int) (ao : Option Addr) (xs : List Nat) (cap : Nat) (w : World) (hK : I64 k) (hN : I64 N) (hx : Wd w ao xs) (hf : Fit xs) (hcap : xs.length ≤ cap) (hl : N ≤ 3000 ∧ xs.length ≤ 1048576) (GG : GV w) :
  Calls Tryz.prog 27 #[.int .i64 k, .agg #[.int .i64 N, .slice ao xs.length cap]] w fun e w' => ∃ cs : List Value, e = .returned (.tuple #[.agg cs.toArray, .int .i64 (kE k N xs)]) ∧ KI w' cs (kB k N xs) ∧ Below w.heap.size w w' ∧ NFV w.heap.size cs := by
 by_cases q2 : k = 2
 ·subst q2
  exact build_r N ao xs cap w hN hx hf hcap hl GG
 by_cases q3 : k = 3
 ·subst q3
  exact build_f N ao xs cap w hN hx hf hcap hl GG
 obtain ⟨W, hW⟩ : ∃ W, W = ((w.alloc (.cells #[.int .i64 N, .slice ao xs.length cap] 33)).alloc (.cells [Value.int .i64 0, .int .i64 0, .slice none 0 0, .slice none 0 0, .slice none 0 0, .int .i64 0, .int .i64 0, .int .i64 0, .int .i64 0, .slice none 0 0, .int .i64 0, .slice none 0 0, .slice none 0 0, .slice none 0 0, .int .i64 0, .int .i64 0, .int .i64 0, .int .i64 0, .int .i64 0, .slice none 0 0, .int .i64 0, .slice none 0 0].toArray 45)).alloc (.cells [Value.int .i64 0, .int .i64 0, .slice none 0 0, .slice none 0 0, .slice none 0 0, .int .i64 0, .int .i64 0, .int .i64 0, .int .i64 0, .slice none 0 0, .int .i64 0, .slice none 0 0, .slice none 0 0, .slice none 0 0, .int .i64 0, .int .i64 0, .int .i64 0, .int .i64 0, .int .i64 0, .slice none 0 0, .int .i64 0, .slice none 0 0].toArray 45) := ⟨_, rfl⟩
 have bw : Below w.heap.size w W := by rw [hW]; exact ((below_alloc w _).alloc (by simp) _).alloc (by simp; omega) _
 have B0 : Cel W w.heap.size [.int .i64 N, .slice ao xs.length cap] 33 := by rw [hW]; exact ((Cel.new w _ _).alloc _).alloc _
 have B4 : Cel W (w.heap.size + 1) [Value.int .i64 0, .int .i64 0, .slice none 0 0, .slice none 0 0, .slice none 0 0, .int .i64 0, .int .i64 0, .int .i64 0, .int .i64 0, .slice none 0 0, .int .i64 0, .slice none 0 0, .slice none 0 0, .slice none 0 0, .int .i64 0, .int .i64 0, .int .i64 0, .int .i64 0, .int .i64 0, .slice none 0 0, .int .i64 0, .slice none 0 0] 45 := by rw [hW]; exact (Cel.new2 w _ _ _).alloc _
 have B6 : Cel W (w.heap.size + 2) [Value.int .i64 0, .int .i64 0, .slice none 0 0, .slice none 0 0, .slice none 0 0, .int .i64 0, .int .i64 0, .int .i64 0, .int .i64 0, .slice none 0 0, .int .i64 0, .slice none 0 0, .slice none 0 0, .slice none 0 0, .int .i64 0, .int .i64 0, .int .i64 0, .int .i64 0, .int .i64 0, .slice none 0 0, .int .i64 0, .slice none 0 0] 45 := by rw [hW]; exact (Cel.new2 (w.alloc _) _ _ _).at (by simp)
 have hIV := Hid.mk8 info_v
 have H7 : Hid (∀ w0, Below w.heap.size w w0 → Calls Tryz.prog 52 #[.agg #[.int .i64 N, .slice ao xs.length cap]] w0 fun e w' => ∃ cs : List Value, e = .returned (.tuple #[.agg cs.toArray, .int .i64 (kE7 N xs)]) ∧ KI7 w' cs (kB7 N xs) ∧ NF w0.heap.size 2 cs ∧ Below w0.heap.size w0 w') := fun w0 h => build_k7 N ao xs cap w0 hN (hx.keep h) hf hcap hl.2
 subst hW
 by_cases q1 : k = 1
 ·subst q1
  have eE : kE 1 N xs = kE7 N xs := rfl
  rw [eE]
  by_cases z : kE7 N xs = 0
  ·have ew : kB 1 N xs = ⟨1, kB7 N xs, n8, n9⟩ := kB_p N xs z
   rw [z] at H7 ⊢
   clear eE z
   go_enter Tryz.func27, Tryz.ntmps27
   go_wp2_with (refine store_cel (w.heap.size + 2) _ _ rfl rfl B6 rfl hIV.out (by simp [Value.oneCell']) ?_)
   intro w1 B6 O1
   replace B0 := O1.cel B0 (by omega)
   replace B4 := O1.cel B4 (by omega)
   replace bw := bw.trans (O1.below (by omega))
   clear O1
   have r0 := B0.cell 0 rfl
   have r1 := B0.cell 1 rfl
   go_wp2_with fail
   refine (H7.out _ bw).mono ?_
   rintro e w2 ⟨cs, rfl, hP, hN2, hb⟩
   have sz := B6.lt
   have sz2 := hb.size
   replace B4 := B4.kept hb
   replace B6 := B6.kept hb
   replace bw := bw.trans (hb.mono bw.size)
   clear hb r0 r1 B0
   go_wp2_with (refine store_part (w.heap.size + 2) [Value.int .i64 1] [Value.int .i64 0, .slice none 0 0, .slice none 0 0, .slice none 0 0] ([Value.int .i64 0, .int .i64 0, .int .i64 0, .int .i64 0, .slice none 0 0, .int .i64 0, .slice none 0 0, .slice none 0 0, .slice none 0 0] ++ [Value.int .i64 0, .int .i64 0, .int .i64 0, .int .i64 0, .int .i64 0, .slice none 0 0, .int .i64 0, .slice none 0 0]) cs rfl rfl B6 hP.arg.four.symm hP.arg.len hP.arg.one ?_)
   intro w3 B7 O3
   have hQ := hP.only hN2 (by omega) B6 (nou_mk (z7arg w).arg.nou (z8a w).nou (z9arg w).arg.nou) O3
   replace B4 := O3.cel B4 (by omega)
   replace bw := bw.trans (O3.below (by omega))
   have B8 : Cel w3 (w.heap.size + 2) (Value.int .i64 1 :: (cs ++ ([Value.int .i64 0, .int .i64 0, .int .i64 0, .int .i64 0, .slice none 0 0, .int .i64 0, .slice none 0 0, .slice none 0 0, .slice none 0 0] ++ [Value.int .i64 0, .int .i64 0, .int .i64 0, .int .i64 0, .int .i64 0, .slice none 0 0, .int .i64 0, .slice none 0 0]))) 45 := B7
   have HL := Hid.mk8 (ka_mk hK hQ.arg (z8a w3) (z9arg w3).arg).len
   have H1 := Hid.mk8 (ka_mk hK hQ.arg (z8a w3) (z9arg w3).arg).one
   have H9 := Hid.mk8 (ka_mk hK hQ.arg (z8a w3) (z9arg w3).arg).nine
   have HNF : Hid (NFV w.heap.size (Value.int .i64 1 :: (cs ++ ([Value.int .i64 0, .int .i64 0, .int .i64 0, .int .i64 0, .slice none 0 0, .int .i64 0, .slice none 0 0, .slice none 0 0, .slice none 0 0] ++ [Value.int .i64 0, .int .i64 0, .int .i64 0, .int .i64 0, .int .i64 0, .slice none 0 0, .int .i64 0, .slice none 0 0])))) := ⟨(hN2.mono (by omega)).mid (pre := [Value.int .i64 1]) (by have := hQ.arg.four; omega) rfl, (show NF w.heap.size 7 [Value.int .i64 0, .int .i64 0, .int .i64 0, .int .i64 0, .slice none 0 0, .int .i64 0, .slice none 0 0, .slice none 0 0, .slice none 0 0] from nf_mk (fr0 _) (fr0 _)).mid (pre := Value.int .i64 1 :: cs) (by decide) (by have := hQ.arg.four; simp; omega)⟩
   have HQ := Hid.mk8 (And.intro hQ hN2)
   clear B7 O3 B6 hP hN2 hQ
   go_wp2_with (first | refine load_obj (w.heap.size + 2) _ (by rfl) rfl B8 Tryz.underlying45 HL.out ?_ | refine store_cel (w.heap.size + 1) _ _ rfl rfl B4 H9.out HL.out H1.out ?_)
   intro w9 B9 O9
   have HZ := Hid.mk8 (And.intro B9 (And.intro (ki_mk hK (HQ.out.1.only HQ.out.2 (by omega) B4 (nou_mk (z7arg w).arg.nou (z8a w).nou (z9arg w).arg.nou) O9) (z8arg w9 (GG.kept (bw.trans (O9.below (by omega))))) (z9arg w9)) (bw.trans (O9.below (by omega)))))
   clear B9 O9 B8 B4 HQ
   go_wp2
   (try simp only [Exit.inBlock, Exit.then])
   refine bodyPost_ret (result_cel rfl (w.heap.size + 1) _ rfl HZ.out.1 Tryz.underlying45 HL.out) rfl ⟨_, rfl, ?_, HZ.out.2.2, HNF.out⟩
   rw [ew]
   exact HZ.out.2.1
  ·have ew : kB 1 N xs = ⟨0, n7, n8, n9⟩ := kB_none 1 N xs (by rw [eE]; exact z)
   have zz : (kE7 N xs != 0) = true := by simp [z]
   clear eE z
   generalize kE7 N xs = E1 at *
   go_enter Tryz.func27, Tryz.ntmps27
   go_wp2_with (refine store_cel (w.heap.size + 2) _ _ rfl rfl B6 rfl hIV.out (by simp [Value.oneCell']) ?_)
   intro w1 B6 O1
   replace B0 := O1.cel B0 (by omega)
   replace B4 := O1.cel B4 (by omega)
   replace bw := bw.trans (O1.below (by omega))
   clear O1
   have r0 := B0.cell 0 rfl
   have r1 := B0.cell 1 rfl
   go_wp2_with fail
   refine (H7.out _ bw).mono ?_
   rintro e w2 ⟨cs, rfl, hP, hN2, hb⟩
   have sz := B6.lt
   have sz2 := hb.size
   replace B4 := B4.kept hb
   replace B6 := B6.kept hb
   replace bw := bw.trans (hb.mono bw.size)
   clear hb r0 r1 B0
   go_wp2_with (refine store_part (w.heap.size + 2) [Value.int .i64 1] [Value.int .i64 0, .slice none 0 0, .slice none 0 0, .slice none 0 0] ([Value.int .i64 0, .int .i64 0, .int .i64 0, .int .i64 0, .slice none 0 0, .int .i64 0, .slice none 0 0, .slice none 0 0, .slice none 0 0] ++ [Value.int .i64 0, .int .i64 0, .int .i64 0, .int .i64 0, .int .i64 0, .slice none 0 0, .int .i64 0, .slice none 0 0]) cs rfl rfl B6 hP.arg.four.symm hP.arg.len hP.arg.one ?_)
   intro w3 B7 O3
   replace B4 := O3.cel B4 (by omega)
   replace bw := bw.trans (O3.below (by omega))
   clear B7 O3 B6 hP hN2
   go_wp2_with (refine store_cel (w.heap.size + 1) _ _ rfl rfl B4 rfl hIV.out (by simp [Value.oneCell']) ?_)
   intro w9 B9 O9
   have HZ := Hid.mk8 (And.intro B9 (bw.trans (O9.below (by omega))))
   clear B9 O9
   go_wp2
   (try simp only [Exit.inBlock, Exit.then])
   refine bodyPost_ret (result_cel rfl (w.heap.size + 1) _ rfl HZ.out.1 Tryz.underlying45 hIV.out) rfl ⟨_, rfl, ?_, HZ.out.2, nf_mk (fr0 _) (fr0 _), nf_mk (fr0 _) (fr0 _)⟩
   rw [ew]
   exact ki_mk i64_0 (z7arg _) (z8arg _ (GG.kept HZ.out.2)) (z9arg _)
 have eE : kE k N xs = 5 := by unfold kE; rw [if_neg q1, if_neg q2, if_neg q3]
 have ew : kB k N xs = ⟨0, n7, n8, n9⟩ := kB_none k N xs (by rw [eE]; decide)
 rw [eE]
 have d1 : (k == 1) = false := by simp [q1]
 have d2 : (k == 2) = false := by simp [q2]
 have d3 : (k == 3) = false := by simp [q3]
 clear eE
 go_enter Tryz.func27, Tryz.ntmps27
 go_wp2_with (refine store_cel (w.heap.size + 2) _ _ rfl rfl B6 rfl hIV.out (by simp [Value.oneCell']) ?_)
 intro w1 B6 O1
 replace B0 := O1.cel B0 (by omega)
 replace B4 := O1.cel B4 (by omega)
 replace bw := bw.trans (O1.below (by omega))
 clear O1
 have r0 := B0.cell 0 rfl
 have r1 := B0.cell 1 rfl
 go_wp2_with (refine store_cel (w.heap.size + 1) _ _ rfl rfl B4 rfl hIV.out (by simp [Value.oneCell']) ?_)
 intro w9 B9 O9
 have HZ := Hid.mk8 (And.intro B9 (bw.trans (O9.below (by omega))))
 clear B9 O9
 go_wp2
 (try simp only [Exit.inBlock, Exit.then])
 refine bodyPost_ret (result_cel rfl (w.heap.size + 1) _ rfl HZ.out.1 Tryz.underlying45 hIV.out) rfl ⟨_, rfl, ?_, HZ.out.2, nf_mk (fr0 _) (fr0 _), nf_mk (fr0 _) (fr0 _)⟩
 rw [ew]
 exact ki_mk i64_0 (z7arg _) (z8arg _ (GG.kept HZ.out.2)) (z9arg _)
def VB (k : Int) : Prop := ∀ (N : Int) (ao : Option Addr) (xs : List Nat) (cap : Nat) (w : World), I64 N → Wd w ao xs → Fit xs → xs.length ≤ cap → (N ≤ 3000 ∧ xs.length ≤ 1048576) → GV w → Calls Tryz.prog 27 #[.int .i64 k, .agg #[.int .i64 N, .slice ao xs.length cap]] w fun e w' => ∃ cs : List Value, e = .returned (.tuple #[.agg cs.toArray, .int .i64 (kE k N xs)]) ∧ KI w' cs (kB k N xs) ∧ Below w.heap.size w w' ∧ NFV w.heap.size cs
theorem vb_k (k : Int) (hK : I64 k) : VB k := fun N ao xs cap w h1 h2 h3 h4 h5 h6 => build_k k N ao xs cap w hK h1 h2 h3 h4 h5 h6
end Go.Proofs.YtfnkklkdajlhlaaGreatDoor
