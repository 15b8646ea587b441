/-
  The contracts of the program's Check, Size, Access, Rank and Select. A row by places that is built, right; an argument of the type api.Fano, opened.
-/
import Derived.Test.YtpeecabfcgijhaaGreatDoorT13
import Derived.Test.YtpeecabfcgijhaaGreatDoorT17
import Derived.Test.YtpeecabfcgijhaaGreatDoorT27
import Derived.Test.YtpeecabfcgijhaaGreatDoorT31
import Derived.Test.YtpeecabfcgijhaaGreatDoorT01
import Derived.Test.YtpeecabfcgijhaaGreatDoorRows
import Derived.ChangeSame
set_option linter.unusedVariables false
set_option linter.unusedSimpArgs false
set_option maxRecDepth 100000
set_option maxHeartbeats 16000000
namespace Go.Proofs.YtpeecabfcgijhaaGreatDoor
open Go.RowKit Num Bit
theorem check_r (cs : List Value) (a : RA) (w : World) (h : KI w cs a) (o8 : kOn a = 2) :
  Calls Tryz.prog 21 #[.agg cs.toArray] w fun e w' => e = .returned (.bool (kOk a)) ∧ Below w.heap.size w w' := by
 have ON0 := fun (w0 : World) (hb : Below w.heap.size w w0) => only_c cs a w0 (h.arg.keep hb)
 have HL := Hid.mk8 h.arg.len
 have sm := h.sm
 have gv := h.gv
 replace h := h.arg
 obtain ⟨cp, cr, cf, rfl, hK, h1, h2, h3⟩ := h
 have l4 := Hid.mk8 h1.four
 have l9 := Hid.mk8 h2.nine
 have LP := Hid.mk8 h1.len
 have LR := Hid.mk8 h2.len
 have LF := Hid.mk8 h3.len
 obtain ⟨K, p, r, f⟩ := a
 dsimp only at *
 have k7 : KI7 w cp p := ⟨h1, sm.p1, sm.p2, sm.p3⟩
 have k8 : KI8 w cr r := ⟨h2, sm.r1, sm.r2, sm.r3, sm.r4, gv⟩
 have k9 : KI9 w cf f := ⟨h3, sm.f0, sm.f1, sm.f2⟩
 have ON : Hid (∀ w0, Below w.heap.size w w0 → Calls Tryz.prog 31 #[.agg (Value.int .i64 K :: (cp ++ (cr ++ cf))).toArray] w0 fun e w' => e = .returned (.int .i64 (kOn ⟨K, p, r, f⟩)) ∧ Below w0.heap.size w0 w') := ON0
 clear ON0 h1 h2 h3 sm gv
 obtain ⟨W, hW⟩ : ∃ W, W = w.alloc (.cells (Value.int .i64 K :: (cp ++ (cr ++ cf))).toArray 37) := ⟨_, rfl⟩
 have bw : Below w.heap.size w W := by rw [hW]; exact below_alloc w _
 have B0 := yc1 hW
 subst hW
 obtain ⟨e1, e2, e3, e4⟩ := on_r o8
 rw [e1]
 rw [o8] at ON
 have C : Hid (∀ w0, Below w.heap.size w w0 → Calls Tryz.prog 59 #[.agg cr.toArray] w0 fun e w' => e = .returned (.bool (kOk8 r)) ∧ Below w0.heap.size w0 w') := fun w0 g => check_k8 cr r w0 (k8.keep g)
 clear e1 e2 e3 e4 k7 k8 k9
 generalize kOk8 r = P0 at *
 go_enter Tryz.func21, Tryz.ntmps21
 go_wp2_with (refine load_obj w.heap.size _ (by rfl) rfl B0 Tryz.underlying37 HL.out ?_)
 refine (ON.out _ bw).mono ?_
 rintro e w1 ⟨rfl, hb⟩
 replace B0 := B0.kept hb
 replace bw := bw.trans (hb.mono bw.size)
 clear hb
 obtain ⟨c0, p1, p2, p3⟩ := parts l4.out l9.out B0
 go_wp2_with (refine load_part w.heap.size 5 cr (by rfl) rfl p2 Tryz.underlying33 LR.out ?_)
 refine (C.out _ bw).mono ?_
 rintro e w2 ⟨rfl, hb⟩
 replace bw := bw.trans (hb.mono bw.size)
 go_wp2
 go_ret
 exact ⟨rfl, bw⟩
theorem check_k (cs : List Value) (a : RA) (w : World) (h : KI w cs a) :
  Calls Tryz.prog 21 #[.agg cs.toArray] w fun e w' => e = .returned (.bool (kOk a)) ∧ Below w.heap.size w w' := by
 by_cases o8 : kOn a = 2
 ·exact check_r cs a w h o8
 have ON0 := fun (w0 : World) (hb : Below w.heap.size w w0) => only_c cs a w0 (h.arg.keep hb)
 have HL := Hid.mk8 h.arg.len
 have sm := h.sm
 have gv := h.gv
 replace h := h.arg
 obtain ⟨cp, cr, cf, rfl, hK, h1, h2, h3⟩ := h
 have l4 := Hid.mk8 h1.four
 have l9 := Hid.mk8 h2.nine
 have LP := Hid.mk8 h1.len
 have LR := Hid.mk8 h2.len
 have LF := Hid.mk8 h3.len
 obtain ⟨K, p, r, f⟩ := a
 dsimp only at *
 have k7 : KI7 w cp p := ⟨h1, sm.p1, sm.p2, sm.p3⟩
 have k8 : KI8 w cr r := ⟨h2, sm.r1, sm.r2, sm.r3, sm.r4, gv⟩
 have k9 : KI9 w cf f := ⟨h3, sm.f0, sm.f1, sm.f2⟩
 have ON : Hid (∀ w0, Below w.heap.size w w0 → Calls Tryz.prog 31 #[.agg (Value.int .i64 K :: (cp ++ (cr ++ cf))).toArray] w0 fun e w' => e = .returned (.int .i64 (kOn ⟨K, p, r, f⟩)) ∧ Below w0.heap.size w0 w') := ON0
 clear ON0 h1 h2 h3 sm gv
 obtain ⟨W, hW⟩ : ∃ W, W = w.alloc (.cells (Value.int .i64 K :: (cp ++ (cr ++ cf))).toArray 37) := ⟨_, rfl⟩
 have bw : Below w.heap.size w W := by rw [hW]; exact below_alloc w _
 have B0 := yc1 hW
 subst hW
 by_cases o7 : kOn ⟨K, p, r, f⟩ = 1
 ·skip
  obtain ⟨e1, e2, e3, e4⟩ := on_p o7
  rw [e1]
  rw [o7] at ON
  have C : Hid (∀ w0, Below w.heap.size w w0 → Calls Tryz.prog 58 #[.agg cp.toArray] w0 fun e w' => e = .returned (.bool (kOk7 p)) ∧ Below w0.heap.size w0 w') := fun w0 g => check_k7 cp p w0 (k7.keep g)
  clear e1 e2 e3 e4 k7 k8 k9
  generalize kOk7 p = P0 at *
  go_enter Tryz.func21, Tryz.ntmps21
  go_wp2_with (refine load_obj w.heap.size _ (by rfl) rfl B0 Tryz.underlying37 HL.out ?_)
  refine (ON.out _ bw).mono ?_
  rintro e w1 ⟨rfl, hb⟩
  replace B0 := B0.kept hb
  replace bw := bw.trans (hb.mono bw.size)
  clear hb
  obtain ⟨c0, p1, p2, p3⟩ := parts l4.out l9.out B0
  go_wp2_with (refine load_part w.heap.size 1 cp (by rfl) rfl p1 Tryz.underlying29 LP.out ?_)
  refine (C.out _ bw).mono ?_
  rintro e w2 ⟨rfl, hb⟩
  replace bw := bw.trans (hb.mono bw.size)
  go_wp2
  go_ret
  exact ⟨rfl, bw⟩
 by_cases o9 : kOn ⟨K, p, r, f⟩ = 3
 ·skip
  obtain ⟨e1, e2, e3, e4⟩ := on_f o9
  rw [e1]
  rw [o9] at ON
  have C : Hid (∀ w0, Below w.heap.size w w0 → Calls Tryz.prog 60 #[.agg cf.toArray] w0 fun e w' => e = .returned (.bool (kOk9 f)) ∧ Below w0.heap.size w0 w') := fun w0 g => check_k9 cf f w0 (k9.keep g)
  clear e1 e2 e3 e4 k7 k8 k9
  generalize kOk9 f = P0 at *
  go_enter Tryz.func21, Tryz.ntmps21
  go_wp2_with (refine load_obj w.heap.size _ (by rfl) rfl B0 Tryz.underlying37 HL.out ?_)
  refine (ON.out _ bw).mono ?_
  rintro e w1 ⟨rfl, hb⟩
  replace B0 := B0.kept hb
  replace bw := bw.trans (hb.mono bw.size)
  clear hb
  obtain ⟨c0, p1, p2, p3⟩ := parts l4.out l9.out B0
  go_wp2_with (refine load_part w.heap.size 14 cf (by rfl) rfl p3 Tryz.underlying35 LF.out ?_)
  refine (C.out _ bw).mono ?_
  rintro e w2 ⟨rfl, hb⟩
  replace bw := bw.trans (hb.mono bw.size)
  go_wp2
  go_ret
  exact ⟨rfl, bw⟩
 obtain ⟨e1, e2, e3, e4⟩ := on_n o7 o8 o9
 rw [e1]
 have d7 : (kOn ⟨K, p, r, f⟩ == 1) = false := by simp [o7]
 have d8 : (kOn ⟨K, p, r, f⟩ == 2) = false := by simp [o8]
 have d9 : (kOn ⟨K, p, r, f⟩ == 3) = false := by simp [o9]
 clear e1 e2 e3 e4 k7 k8 k9
 generalize kOn ⟨K, p, r, f⟩ = O at *
 go_enter Tryz.func21, Tryz.ntmps21
 go_wp2_with (refine load_obj w.heap.size _ (by rfl) rfl B0 Tryz.underlying37 HL.out ?_)
 refine (ON.out _ bw).mono ?_
 rintro e w1 ⟨rfl, hb⟩
 replace B0 := B0.kept hb
 replace bw := bw.trans (hb.mono bw.size)
 go_wp2
 go_ret
 exact ⟨rfl, bw⟩
theorem size_r (cs : List Value) (a : RA) (w : World) (h : KI w cs a) (o8 : kOn a = 2) :
  Calls Tryz.prog 15 #[.agg cs.toArray] w fun e w' => e = .returned (.int .i64 (kZ a)) ∧ Below w.heap.size w w' := by
 have ON0 := fun (w0 : World) (hb : Below w.heap.size w w0) => only_c cs a w0 (h.arg.keep hb)
 have HL := Hid.mk8 h.arg.len
 have sm := h.sm
 have gv := h.gv
 replace h := h.arg
 obtain ⟨cp, cr, cf, rfl, hK, h1, h2, h3⟩ := h
 have l4 := Hid.mk8 h1.four
 have l9 := Hid.mk8 h2.nine
 have LP := Hid.mk8 h1.len
 have LR := Hid.mk8 h2.len
 have LF := Hid.mk8 h3.len
 obtain ⟨K, p, r, f⟩ := a
 dsimp only at *
 have k7 : KI7 w cp p := ⟨h1, sm.p1, sm.p2, sm.p3⟩
 have k8 : KI8 w cr r := ⟨h2, sm.r1, sm.r2, sm.r3, sm.r4, gv⟩
 have k9 : KI9 w cf f := ⟨h3, sm.f0, sm.f1, sm.f2⟩
 have ON : Hid (∀ w0, Below w.heap.size w w0 → Calls Tryz.prog 31 #[.agg (Value.int .i64 K :: (cp ++ (cr ++ cf))).toArray] w0 fun e w' => e = .returned (.int .i64 (kOn ⟨K, p, r, f⟩)) ∧ Below w0.heap.size w0 w') := ON0
 clear ON0 h1 h2 h3 sm gv
 obtain ⟨W, hW⟩ : ∃ W, W = w.alloc (.cells (Value.int .i64 K :: (cp ++ (cr ++ cf))).toArray 37) := ⟨_, rfl⟩
 have bw : Below w.heap.size w W := by rw [hW]; exact below_alloc w _
 have B0 := yc1 hW
 subst hW
 obtain ⟨e1, e2, e3, e4⟩ := on_r o8
 rw [e4]
 rw [o8] at ON
 have C : Hid (∀ w0, Below w.heap.size w w0 → Calls Tryz.prog 48 #[.agg cr.toArray] w0 fun e w' => e = .returned (.int .i64 (kZ8 r)) ∧ Below w0.heap.size w0 w') := fun w0 g => size_k8 cr r w0 (k8.keep g)
 clear e1 e2 e3 e4 k7 k8 k9
 generalize kZ8 r = P0 at *
 go_enter Tryz.func15, Tryz.ntmps15
 go_wp2_with (refine load_obj w.heap.size _ (by rfl) rfl B0 Tryz.underlying37 HL.out ?_)
 refine (ON.out _ bw).mono ?_
 rintro e w1 ⟨rfl, hb⟩
 replace B0 := B0.kept hb
 replace bw := bw.trans (hb.mono bw.size)
 clear hb
 obtain ⟨c0, p1, p2, p3⟩ := parts l4.out l9.out B0
 go_wp2_with (refine load_part w.heap.size 5 cr (by rfl) rfl p2 Tryz.underlying33 LR.out ?_)
 refine (C.out _ bw).mono ?_
 rintro e w2 ⟨rfl, hb⟩
 replace bw := bw.trans (hb.mono bw.size)
 go_wp2
 go_ret
 exact ⟨rfl, bw⟩
theorem size_k (cs : List Value) (a : RA) (w : World) (h : KI w cs a) :
  Calls Tryz.prog 15 #[.agg cs.toArray] w fun e w' => e = .returned (.int .i64 (kZ a)) ∧ Below w.heap.size w w' := by
 by_cases o8 : kOn a = 2
 ·exact size_r cs a w h o8
 have ON0 := fun (w0 : World) (hb : Below w.heap.size w w0) => only_c cs a w0 (h.arg.keep hb)
 have HL := Hid.mk8 h.arg.len
 have sm := h.sm
 have gv := h.gv
 replace h := h.arg
 obtain ⟨cp, cr, cf, rfl, hK, h1, h2, h3⟩ := h
 have l4 := Hid.mk8 h1.four
 have l9 := Hid.mk8 h2.nine
 have LP := Hid.mk8 h1.len
 have LR := Hid.mk8 h2.len
 have LF := Hid.mk8 h3.len
 obtain ⟨K, p, r, f⟩ := a
 dsimp only at *
 have k7 : KI7 w cp p := ⟨h1, sm.p1, sm.p2, sm.p3⟩
 have k8 : KI8 w cr r := ⟨h2, sm.r1, sm.r2, sm.r3, sm.r4, gv⟩
 have k9 : KI9 w cf f := ⟨h3, sm.f0, sm.f1, sm.f2⟩
 have ON : Hid (∀ w0, Below w.heap.size w w0 → Calls Tryz.prog 31 #[.agg (Value.int .i64 K :: (cp ++ (cr ++ cf))).toArray] w0 fun e w' => e = .returned (.int .i64 (kOn ⟨K, p, r, f⟩)) ∧ Below w0.heap.size w0 w') := ON0
 clear ON0 h1 h2 h3 sm gv
 obtain ⟨W, hW⟩ : ∃ W, W = w.alloc (.cells (Value.int .i64 K :: (cp ++ (cr ++ cf))).toArray 37) := ⟨_, rfl⟩
 have bw : Below w.heap.size w W := by rw [hW]; exact below_alloc w _
 have B0 := yc1 hW
 subst hW
 by_cases o7 : kOn ⟨K, p, r, f⟩ = 1
 ·skip
  obtain ⟨e1, e2, e3, e4⟩ := on_p o7
  rw [e4]
  rw [o7] at ON
  have C : Hid (∀ w0, Below w.heap.size w w0 → Calls Tryz.prog 47 #[.agg cp.toArray] w0 fun e w' => e = .returned (.int .i64 (kZ7 p)) ∧ Below w0.heap.size w0 w') := fun w0 g => size_k7 cp p w0 (k7.keep g)
  clear e1 e2 e3 e4 k7 k8 k9
  generalize kZ7 p = P0 at *
  go_enter Tryz.func15, Tryz.ntmps15
  go_wp2_with (refine load_obj w.heap.size _ (by rfl) rfl B0 Tryz.underlying37 HL.out ?_)
  refine (ON.out _ bw).mono ?_
  rintro e w1 ⟨rfl, hb⟩
  replace B0 := B0.kept hb
  replace bw := bw.trans (hb.mono bw.size)
  clear hb
  obtain ⟨c0, p1, p2, p3⟩ := parts l4.out l9.out B0
  go_wp2_with (refine load_part w.heap.size 1 cp (by rfl) rfl p1 Tryz.underlying29 LP.out ?_)
  refine (C.out _ bw).mono ?_
  rintro e w2 ⟨rfl, hb⟩
  replace bw := bw.trans (hb.mono bw.size)
  go_wp2
  go_ret
  exact ⟨rfl, bw⟩
 by_cases o9 : kOn ⟨K, p, r, f⟩ = 3
 ·skip
  obtain ⟨e1, e2, e3, e4⟩ := on_f o9
  rw [e4]
  rw [o9] at ON
  have C : Hid (∀ w0, Below w.heap.size w w0 → Calls Tryz.prog 49 #[.agg cf.toArray] w0 fun e w' => e = .returned (.int .i64 (kZ9 f)) ∧ Below w0.heap.size w0 w') := fun w0 g => size_k9 cf f w0 (k9.keep g)
  clear e1 e2 e3 e4 k7 k8 k9
  generalize kZ9 f = P0 at *
  go_enter Tryz.func15, Tryz.ntmps15
  go_wp2_with (refine load_obj w.heap.size _ (by rfl) rfl B0 Tryz.underlying37 HL.out ?_)
  refine (ON.out _ bw).mono ?_
  rintro e w1 ⟨rfl, hb⟩
  replace B0 := B0.kept hb
  replace bw := bw.trans (hb.mono bw.size)
  clear hb
  obtain ⟨c0, p1, p2, p3⟩ := parts l4.out l9.out B0
  go_wp2_with (refine load_part w.heap.size 14 cf (by rfl) rfl p3 Tryz.underlying35 LF.out ?_)
  refine (C.out _ bw).mono ?_
  rintro e w2 ⟨rfl, hb⟩
  replace bw := bw.trans (hb.mono bw.size)
  go_wp2
  go_ret
  exact ⟨rfl, bw⟩
 obtain ⟨e1, e2, e3, e4⟩ := on_n o7 o8 o9
 rw [e4]
 have d7 : (kOn ⟨K, p, r, f⟩ == 1) = false := by simp [o7]
 have d8 : (kOn ⟨K, p, r, f⟩ == 2) = false := by simp [o8]
 have d9 : (kOn ⟨K, p, r, f⟩ == 3) = false := by simp [o9]
 clear e1 e2 e3 e4 k7 k8 k9
 generalize kOn ⟨K, p, r, f⟩ = O at *
 go_enter Tryz.func15, Tryz.ntmps15
 go_wp2_with (refine load_obj w.heap.size _ (by rfl) rfl B0 Tryz.underlying37 HL.out ?_)
 refine (ON.out _ bw).mono ?_
 rintro e w1 ⟨rfl, hb⟩
 replace B0 := B0.kept hb
 replace bw := bw.trans (hb.mono bw.size)
 go_wp2
 go_ret
 exact ⟨rfl, bw⟩
theorem access_r (cs : List Value) (a : RA) (i : Int) (w : World) (h : KI w cs a) (hi : I64 i) (o8 : kOn a = 2) :
  Calls Tryz.prog 10 #[.agg cs.toArray, .int .i64 i] w fun e w' => e = .returned (.tuple #[.bool (gaB (kOk a) (kBN a) (kBX a) i), .int .i64 (gaE (kOk a) (kBN a) (kBX a) i)]) ∧ Below w.heap.size w w' := by
 have ON0 := fun (w0 : World) (hb : Below w.heap.size w w0) => only_c cs a w0 (h.arg.keep hb)
 have HL := Hid.mk8 h.arg.len
 have sm := h.sm
 have gv := h.gv
 replace h := h.arg
 obtain ⟨cp, cr, cf, rfl, hK, h1, h2, h3⟩ := h
 have l4 := Hid.mk8 h1.four
 have l9 := Hid.mk8 h2.nine
 have LP := Hid.mk8 h1.len
 have LR := Hid.mk8 h2.len
 have LF := Hid.mk8 h3.len
 obtain ⟨K, p, r, f⟩ := a
 dsimp only at *
 have k7 : KI7 w cp p := ⟨h1, sm.p1, sm.p2, sm.p3⟩
 have k8 : KI8 w cr r := ⟨h2, sm.r1, sm.r2, sm.r3, sm.r4, gv⟩
 have k9 : KI9 w cf f := ⟨h3, sm.f0, sm.f1, sm.f2⟩
 have ON : Hid (∀ w0, Below w.heap.size w w0 → Calls Tryz.prog 31 #[.agg (Value.int .i64 K :: (cp ++ (cr ++ cf))).toArray] w0 fun e w' => e = .returned (.int .i64 (kOn ⟨K, p, r, f⟩)) ∧ Below w0.heap.size w0 w') := ON0
 clear ON0 h1 h2 h3 sm gv
 obtain ⟨W, hW⟩ : ∃ W, W = w.alloc (.cells (Value.int .i64 K :: (cp ++ (cr ++ cf))).toArray 37) := ⟨_, rfl⟩
 have bw : Below w.heap.size w W := by rw [hW]; exact below_alloc w _
 have B0 := yc1 hW
 subst hW
 obtain ⟨e1, e2, e3, e4⟩ := on_r o8
 rw [e1, e2, e3]
 rw [o8] at ON
 have C : Hid (∀ w0, Below w.heap.size w w0 → Calls Tryz.prog 33 #[.agg cr.toArray, .int .i64 i] w0 fun e w' => e = .returned (.tuple #[.bool (gaB (kOk8 r) (kBN8 r) (kBX8 r) i), .int .i64 (gaE (kOk8 r) (kBN8 r) (kBX8 r) i)]) ∧ Below w0.heap.size w0 w') := fun w0 g => access_k8 cr r i w0 (k8.keep g) hi
 clear e1 e2 e3 e4 k7 k8 k9
 generalize gaB (kOk8 r) (kBN8 r) (kBX8 r) i = P0 at *
 generalize gaE (kOk8 r) (kBN8 r) (kBX8 r) i = P1 at *
 go_enter Tryz.func10, Tryz.ntmps10
 go_wp2_with (refine load_obj w.heap.size _ (by rfl) rfl B0 Tryz.underlying37 HL.out ?_)
 refine (ON.out _ bw).mono ?_
 rintro e w1 ⟨rfl, hb⟩
 replace B0 := B0.kept hb
 replace bw := bw.trans (hb.mono bw.size)
 clear hb
 obtain ⟨c0, p1, p2, p3⟩ := parts l4.out l9.out B0
 go_wp2_with (refine load_part w.heap.size 5 cr (by rfl) rfl p2 Tryz.underlying33 LR.out ?_)
 refine (C.out _ bw).mono ?_
 rintro e w2 ⟨rfl, hb⟩
 replace bw := bw.trans (hb.mono bw.size)
 go_wp2
 go_ret2
 exact ⟨rfl, bw⟩
theorem access_k (cs : List Value) (a : RA) (i : Int) (w : World) (h : KI w cs a) (hi : I64 i) :
  Calls Tryz.prog 10 #[.agg cs.toArray, .int .i64 i] w fun e w' => e = .returned (.tuple #[.bool (gaB (kOk a) (kBN a) (kBX a) i), .int .i64 (gaE (kOk a) (kBN a) (kBX a) i)]) ∧ Below w.heap.size w w' := by
 by_cases o8 : kOn a = 2
 ·exact access_r cs a i w h hi o8
 have ON0 := fun (w0 : World) (hb : Below w.heap.size w w0) => only_c cs a w0 (h.arg.keep hb)
 have HL := Hid.mk8 h.arg.len
 have sm := h.sm
 have gv := h.gv
 replace h := h.arg
 obtain ⟨cp, cr, cf, rfl, hK, h1, h2, h3⟩ := h
 have l4 := Hid.mk8 h1.four
 have l9 := Hid.mk8 h2.nine
 have LP := Hid.mk8 h1.len
 have LR := Hid.mk8 h2.len
 have LF := Hid.mk8 h3.len
 obtain ⟨K, p, r, f⟩ := a
 dsimp only at *
 have k7 : KI7 w cp p := ⟨h1, sm.p1, sm.p2, sm.p3⟩
 have k8 : KI8 w cr r := ⟨h2, sm.r1, sm.r2, sm.r3, sm.r4, gv⟩
 have k9 : KI9 w cf f := ⟨h3, sm.f0, sm.f1, sm.f2⟩
 have ON : Hid (∀ w0, Below w.heap.size w w0 → Calls Tryz.prog 31 #[.agg (Value.int .i64 K :: (cp ++ (cr ++ cf))).toArray] w0 fun e w' => e = .returned (.int .i64 (kOn ⟨K, p, r, f⟩)) ∧ Below w0.heap.size w0 w') := ON0
 clear ON0 h1 h2 h3 sm gv
 obtain ⟨W, hW⟩ : ∃ W, W = w.alloc (.cells (Value.int .i64 K :: (cp ++ (cr ++ cf))).toArray 37) := ⟨_, rfl⟩
 have bw : Below w.heap.size w W := by rw [hW]; exact below_alloc w _
 have B0 := yc1 hW
 subst hW
 by_cases o7 : kOn ⟨K, p, r, f⟩ = 1
 ·skip
  obtain ⟨e1, e2, e3, e4⟩ := on_p o7
  rw [e1, e2, e3]
  rw [o7] at ON
  have C : Hid (∀ w0, Below w.heap.size w w0 → Calls Tryz.prog 32 #[.agg cp.toArray, .int .i64 i] w0 fun e w' => e = .returned (.tuple #[.bool (gaB (kOk7 p) (kBN7 p) (kBX7 p) i), .int .i64 (gaE (kOk7 p) (kBN7 p) (kBX7 p) i)]) ∧ Below w0.heap.size w0 w') := fun w0 g => access_k7 cp p i w0 (k7.keep g) hi
  clear e1 e2 e3 e4 k7 k8 k9
  generalize gaB (kOk7 p) (kBN7 p) (kBX7 p) i = P0 at *
  generalize gaE (kOk7 p) (kBN7 p) (kBX7 p) i = P1 at *
  go_enter Tryz.func10, Tryz.ntmps10
  go_wp2_with (refine load_obj w.heap.size _ (by rfl) rfl B0 Tryz.underlying37 HL.out ?_)
  refine (ON.out _ bw).mono ?_
  rintro e w1 ⟨rfl, hb⟩
  replace B0 := B0.kept hb
  replace bw := bw.trans (hb.mono bw.size)
  clear hb
  obtain ⟨c0, p1, p2, p3⟩ := parts l4.out l9.out B0
  go_wp2_with (refine load_part w.heap.size 1 cp (by rfl) rfl p1 Tryz.underlying29 LP.out ?_)
  refine (C.out _ bw).mono ?_
  rintro e w2 ⟨rfl, hb⟩
  replace bw := bw.trans (hb.mono bw.size)
  go_wp2
  go_ret2
  exact ⟨rfl, bw⟩
 by_cases o9 : kOn ⟨K, p, r, f⟩ = 3
 ·skip
  obtain ⟨e1, e2, e3, e4⟩ := on_f o9
  rw [e1, e2, e3]
  rw [o9] at ON
  have C : Hid (∀ w0, Below w.heap.size w w0 → Calls Tryz.prog 34 #[.agg cf.toArray, .int .i64 i] w0 fun e w' => e = .returned (.tuple #[.bool (gaB (kOk9 f) (kBN9 f) (kBX9 f) i), .int .i64 (gaE (kOk9 f) (kBN9 f) (kBX9 f) i)]) ∧ Below w0.heap.size w0 w') := fun w0 g => access_k9 cf f i w0 (k9.keep g) hi
  clear e1 e2 e3 e4 k7 k8 k9
  generalize gaB (kOk9 f) (kBN9 f) (kBX9 f) i = P0 at *
  generalize gaE (kOk9 f) (kBN9 f) (kBX9 f) i = P1 at *
  go_enter Tryz.func10, Tryz.ntmps10
  go_wp2_with (refine load_obj w.heap.size _ (by rfl) rfl B0 Tryz.underlying37 HL.out ?_)
  refine (ON.out _ bw).mono ?_
  rintro e w1 ⟨rfl, hb⟩
  replace B0 := B0.kept hb
  replace bw := bw.trans (hb.mono bw.size)
  clear hb
  obtain ⟨c0, p1, p2, p3⟩ := parts l4.out l9.out B0
  go_wp2_with (refine load_part w.heap.size 14 cf (by rfl) rfl p3 Tryz.underlying35 LF.out ?_)
  refine (C.out _ bw).mono ?_
  rintro e w2 ⟨rfl, hb⟩
  replace bw := bw.trans (hb.mono bw.size)
  go_wp2
  go_ret2
  exact ⟨rfl, bw⟩
 obtain ⟨e1, e2, e3, e4⟩ := on_n o7 o8 o9
 rw [e1, e2, e3]
 have d7 : (kOn ⟨K, p, r, f⟩ == 1) = false := by simp [o7]
 have d8 : (kOn ⟨K, p, r, f⟩ == 2) = false := by simp [o8]
 have d9 : (kOn ⟨K, p, r, f⟩ == 3) = false := by simp [o9]
 clear e1 e2 e3 e4 k7 k8 k9
 generalize kOn ⟨K, p, r, f⟩ = O at *
 go_enter Tryz.func10, Tryz.ntmps10
 go_wp2_with (refine load_obj w.heap.size _ (by rfl) rfl B0 Tryz.underlying37 HL.out ?_)
 refine (ON.out _ bw).mono ?_
 rintro e w1 ⟨rfl, hb⟩
 replace B0 := B0.kept hb
 replace bw := bw.trans (hb.mono bw.size)
 go_wp2
 go_ret2
 exact ⟨rfl, bw⟩
theorem rank_r (cs : List Value) (a : RA) (bit : Bool) (i : Int) (w : World) (h : KI w cs a) (hi : I64 i) (o8 : kOn a = 2) :
  Calls Tryz.prog 11 #[.agg cs.toArray, .bool bit, .int .i64 i] w fun e w' => e = .returned (.tuple #[.int .i64 (grN (kOk a) (kBN a) (kBX a) bit i), .int .i64 (grE (kOk a) (kBN a) i)]) ∧ Below w.heap.size w w' := by
 have ON0 := fun (w0 : World) (hb : Below w.heap.size w w0) => only_c cs a w0 (h.arg.keep hb)
 have HL := Hid.mk8 h.arg.len
 have sm := h.sm
 have gv := h.gv
 replace h := h.arg
 obtain ⟨cp, cr, cf, rfl, hK, h1, h2, h3⟩ := h
 have l4 := Hid.mk8 h1.four
 have l9 := Hid.mk8 h2.nine
 have LP := Hid.mk8 h1.len
 have LR := Hid.mk8 h2.len
 have LF := Hid.mk8 h3.len
 obtain ⟨K, p, r, f⟩ := a
 dsimp only at *
 have k7 : KI7 w cp p := ⟨h1, sm.p1, sm.p2, sm.p3⟩
 have k8 : KI8 w cr r := ⟨h2, sm.r1, sm.r2, sm.r3, sm.r4, gv⟩
 have k9 : KI9 w cf f := ⟨h3, sm.f0, sm.f1, sm.f2⟩
 have ON : Hid (∀ w0, Below w.heap.size w w0 → Calls Tryz.prog 31 #[.agg (Value.int .i64 K :: (cp ++ (cr ++ cf))).toArray] w0 fun e w' => e = .returned (.int .i64 (kOn ⟨K, p, r, f⟩)) ∧ Below w0.heap.size w0 w') := ON0
 clear ON0 h1 h2 h3 sm gv
 obtain ⟨W, hW⟩ : ∃ W, W = w.alloc (.cells (Value.int .i64 K :: (cp ++ (cr ++ cf))).toArray 37) := ⟨_, rfl⟩
 have bw : Below w.heap.size w W := by rw [hW]; exact below_alloc w _
 have B0 := yc1 hW
 subst hW
 obtain ⟨e1, e2, e3, e4⟩ := on_r o8
 rw [e1, e2, e3]
 rw [o8] at ON
 have C : Hid (∀ w0, Below w.heap.size w w0 → Calls Tryz.prog 36 #[.agg cr.toArray, .bool bit, .int .i64 i] w0 fun e w' => e = .returned (.tuple #[.int .i64 (grN (kOk8 r) (kBN8 r) (kBX8 r) bit i), .int .i64 (grE (kOk8 r) (kBN8 r) i)]) ∧ Below w0.heap.size w0 w') := fun w0 g => rank_k8 cr r bit i w0 (k8.keep g) hi
 clear e1 e2 e3 e4 k7 k8 k9
 generalize grN (kOk8 r) (kBN8 r) (kBX8 r) bit i = P0 at *
 generalize grE (kOk8 r) (kBN8 r) i = P1 at *
 go_enter Tryz.func11, Tryz.ntmps11
 go_wp2_with (refine load_obj w.heap.size _ (by rfl) rfl B0 Tryz.underlying37 HL.out ?_)
 refine (ON.out _ bw).mono ?_
 rintro e w1 ⟨rfl, hb⟩
 replace B0 := B0.kept hb
 replace bw := bw.trans (hb.mono bw.size)
 clear hb
 obtain ⟨c0, p1, p2, p3⟩ := parts l4.out l9.out B0
 go_wp2_with (refine load_part w.heap.size 5 cr (by rfl) rfl p2 Tryz.underlying33 LR.out ?_)
 refine (C.out _ bw).mono ?_
 rintro e w2 ⟨rfl, hb⟩
 replace bw := bw.trans (hb.mono bw.size)
 go_wp2
 go_ret2
 exact ⟨rfl, bw⟩
theorem rank_k (cs : List Value) (a : RA) (bit : Bool) (i : Int) (w : World) (h : KI w cs a) (hi : I64 i) :
  Calls Tryz.prog 11 #[.agg cs.toArray, .bool bit, .int .i64 i] w fun e w' => e = .returned (.tuple #[.int .i64 (grN (kOk a) (kBN a) (kBX a) bit i), .int .i64 (grE (kOk a) (kBN a) i)]) ∧ Below w.heap.size w w' := by
 by_cases o8 : kOn a = 2
 ·exact rank_r cs a bit i w h hi o8
 have ON0 := fun (w0 : World) (hb : Below w.heap.size w w0) => only_c cs a w0 (h.arg.keep hb)
 have HL := Hid.mk8 h.arg.len
 have sm := h.sm
 have gv := h.gv
 replace h := h.arg
 obtain ⟨cp, cr, cf, rfl, hK, h1, h2, h3⟩ := h
 have l4 := Hid.mk8 h1.four
 have l9 := Hid.mk8 h2.nine
 have LP := Hid.mk8 h1.len
 have LR := Hid.mk8 h2.len
 have LF := Hid.mk8 h3.len
 obtain ⟨K, p, r, f⟩ := a
 dsimp only at *
 have k7 : KI7 w cp p := ⟨h1, sm.p1, sm.p2, sm.p3⟩
 have k8 : KI8 w cr r := ⟨h2, sm.r1, sm.r2, sm.r3, sm.r4, gv⟩
 have k9 : KI9 w cf f := ⟨h3, sm.f0, sm.f1, sm.f2⟩
 have ON : Hid (∀ w0, Below w.heap.size w w0 → Calls Tryz.prog 31 #[.agg (Value.int .i64 K :: (cp ++ (cr ++ cf))).toArray] w0 fun e w' => e = .returned (.int .i64 (kOn ⟨K, p, r, f⟩)) ∧ Below w0.heap.size w0 w') := ON0
 clear ON0 h1 h2 h3 sm gv
 obtain ⟨W, hW⟩ : ∃ W, W = w.alloc (.cells (Value.int .i64 K :: (cp ++ (cr ++ cf))).toArray 37) := ⟨_, rfl⟩
 have bw : Below w.heap.size w W := by rw [hW]; exact below_alloc w _
 have B0 := yc1 hW
 subst hW
 by_cases o7 : kOn ⟨K, p, r, f⟩ = 1
 ·skip
  obtain ⟨e1, e2, e3, e4⟩ := on_p o7
  rw [e1, e2, e3]
  rw [o7] at ON
  have C : Hid (∀ w0, Below w.heap.size w w0 → Calls Tryz.prog 35 #[.agg cp.toArray, .bool bit, .int .i64 i] w0 fun e w' => e = .returned (.tuple #[.int .i64 (grN (kOk7 p) (kBN7 p) (kBX7 p) bit i), .int .i64 (grE (kOk7 p) (kBN7 p) i)]) ∧ Below w0.heap.size w0 w') := fun w0 g => rank_k7 cp p bit i w0 (k7.keep g) hi
  clear e1 e2 e3 e4 k7 k8 k9
  generalize grN (kOk7 p) (kBN7 p) (kBX7 p) bit i = P0 at *
  generalize grE (kOk7 p) (kBN7 p) i = P1 at *
  go_enter Tryz.func11, Tryz.ntmps11
  go_wp2_with (refine load_obj w.heap.size _ (by rfl) rfl B0 Tryz.underlying37 HL.out ?_)
  refine (ON.out _ bw).mono ?_
  rintro e w1 ⟨rfl, hb⟩
  replace B0 := B0.kept hb
  replace bw := bw.trans (hb.mono bw.size)
  clear hb
  obtain ⟨c0, p1, p2, p3⟩ := parts l4.out l9.out B0
  go_wp2_with (refine load_part w.heap.size 1 cp (by rfl) rfl p1 Tryz.underlying29 LP.out ?_)
  refine (C.out _ bw).mono ?_
  rintro e w2 ⟨rfl, hb⟩
  replace bw := bw.trans (hb.mono bw.size)
  go_wp2
  go_ret2
  exact ⟨rfl, bw⟩
 by_cases o9 : kOn ⟨K, p, r, f⟩ = 3
 ·skip
  obtain ⟨e1, e2, e3, e4⟩ := on_f o9
  rw [e1, e2, e3]
  rw [o9] at ON
  have C : Hid (∀ w0, Below w.heap.size w w0 → Calls Tryz.prog 37 #[.agg cf.toArray, .bool bit, .int .i64 i] w0 fun e w' => e = .returned (.tuple #[.int .i64 (grN (kOk9 f) (kBN9 f) (kBX9 f) bit i), .int .i64 (grE (kOk9 f) (kBN9 f) i)]) ∧ Below w0.heap.size w0 w') := fun w0 g => rank_k9 cf f bit i w0 (k9.keep g) hi
  clear e1 e2 e3 e4 k7 k8 k9
  generalize grN (kOk9 f) (kBN9 f) (kBX9 f) bit i = P0 at *
  generalize grE (kOk9 f) (kBN9 f) i = P1 at *
  go_enter Tryz.func11, Tryz.ntmps11
  go_wp2_with (refine load_obj w.heap.size _ (by rfl) rfl B0 Tryz.underlying37 HL.out ?_)
  refine (ON.out _ bw).mono ?_
  rintro e w1 ⟨rfl, hb⟩
  replace B0 := B0.kept hb
  replace bw := bw.trans (hb.mono bw.size)
  clear hb
  obtain ⟨c0, p1, p2, p3⟩ := parts l4.out l9.out B0
  go_wp2_with (refine load_part w.heap.size 14 cf (by rfl) rfl p3 Tryz.underlying35 LF.out ?_)
  refine (C.out _ bw).mono ?_
  rintro e w2 ⟨rfl, hb⟩
  replace bw := bw.trans (hb.mono bw.size)
  go_wp2
  go_ret2
  exact ⟨rfl, bw⟩
 obtain ⟨e1, e2, e3, e4⟩ := on_n o7 o8 o9
 rw [e1, e2, e3]
 have d7 : (kOn ⟨K, p, r, f⟩ == 1) = false := by simp [o7]
 have d8 : (kOn ⟨K, p, r, f⟩ == 2) = false := by simp [o8]
 have d9 : (kOn ⟨K, p, r, f⟩ == 3) = false := by simp [o9]
 clear e1 e2 e3 e4 k7 k8 k9
 generalize kOn ⟨K, p, r, f⟩ = O at *
 go_enter Tryz.func11, Tryz.ntmps11
 go_wp2_with (refine load_obj w.heap.size _ (by rfl) rfl B0 Tryz.underlying37 HL.out ?_)
 refine (ON.out _ bw).mono ?_
 rintro e w1 ⟨rfl, hb⟩
 replace B0 := B0.kept hb
 replace bw := bw.trans (hb.mono bw.size)
 go_wp2
 go_ret2
 exact ⟨rfl, bw⟩
theorem select_r (cs : List Value) (a : RA) (bit : Bool) (k : Int) (w : World) (h : KI w cs a) (hi : I64 k) (o8 : kOn a = 2) :
  Calls Tryz.prog 12 #[.agg cs.toArray, .bool bit, .int .i64 k] w fun e w' => e = .returned (.tuple #[.int .i64 (gsX (kOk a) (kBN a) (kBX a) bit k), .int .i64 (gsE (kOk a) (kBN a) (kBX a) bit k)]) ∧ Below w.heap.size w w' := by
 have ON0 := fun (w0 : World) (hb : Below w.heap.size w w0) => only_c cs a w0 (h.arg.keep hb)
 have HL := Hid.mk8 h.arg.len
 have sm := h.sm
 have gv := h.gv
 replace h := h.arg
 obtain ⟨cp, cr, cf, rfl, hK, h1, h2, h3⟩ := h
 have l4 := Hid.mk8 h1.four
 have l9 := Hid.mk8 h2.nine
 have LP := Hid.mk8 h1.len
 have LR := Hid.mk8 h2.len
 have LF := Hid.mk8 h3.len
 obtain ⟨K, p, r, f⟩ := a
 dsimp only at *
 have k7 : KI7 w cp p := ⟨h1, sm.p1, sm.p2, sm.p3⟩
 have k8 : KI8 w cr r := ⟨h2, sm.r1, sm.r2, sm.r3, sm.r4, gv⟩
 have k9 : KI9 w cf f := ⟨h3, sm.f0, sm.f1, sm.f2⟩
 have ON : Hid (∀ w0, Below w.heap.size w w0 → Calls Tryz.prog 31 #[.agg (Value.int .i64 K :: (cp ++ (cr ++ cf))).toArray] w0 fun e w' => e = .returned (.int .i64 (kOn ⟨K, p, r, f⟩)) ∧ Below w0.heap.size w0 w') := ON0
 clear ON0 h1 h2 h3 sm gv
 obtain ⟨W, hW⟩ : ∃ W, W = w.alloc (.cells (Value.int .i64 K :: (cp ++ (cr ++ cf))).toArray 37) := ⟨_, rfl⟩
 have bw : Below w.heap.size w W := by rw [hW]; exact below_alloc w _
 have B0 := yc1 hW
 subst hW
 obtain ⟨e1, e2, e3, e4⟩ := on_r o8
 rw [e1, e2, e3]
 rw [o8] at ON
 have C : Hid (∀ w0, Below w.heap.size w w0 → Calls Tryz.prog 39 #[.agg cr.toArray, .bool bit, .int .i64 k] w0 fun e w' => e = .returned (.tuple #[.int .i64 (gsX (kOk8 r) (kBN8 r) (kBX8 r) bit k), .int .i64 (gsE (kOk8 r) (kBN8 r) (kBX8 r) bit k)]) ∧ Below w0.heap.size w0 w') := fun w0 g => select_k8 cr r bit k w0 (k8.keep g) hi
 clear e1 e2 e3 e4 k7 k8 k9
 generalize gsX (kOk8 r) (kBN8 r) (kBX8 r) bit k = P0 at *
 generalize gsE (kOk8 r) (kBN8 r) (kBX8 r) bit k = P1 at *
 go_enter Tryz.func12, Tryz.ntmps12
 go_wp2_with (refine load_obj w.heap.size _ (by rfl) rfl B0 Tryz.underlying37 HL.out ?_)
 refine (ON.out _ bw).mono ?_
 rintro e w1 ⟨rfl, hb⟩
 replace B0 := B0.kept hb
 replace bw := bw.trans (hb.mono bw.size)
 clear hb
 obtain ⟨c0, p1, p2, p3⟩ := parts l4.out l9.out B0
 go_wp2_with (refine load_part w.heap.size 5 cr (by rfl) rfl p2 Tryz.underlying33 LR.out ?_)
 refine (C.out _ bw).mono ?_
 rintro e w2 ⟨rfl, hb⟩
 replace bw := bw.trans (hb.mono bw.size)
 go_wp2
 go_ret2
 exact ⟨rfl, bw⟩
theorem select_k (cs : List Value) (a : RA) (bit : Bool) (k : Int) (w : World) (h : KI w cs a) (hi : I64 k) :
  Calls Tryz.prog 12 #[.agg cs.toArray, .bool bit, .int .i64 k] w fun e w' => e = .returned (.tuple #[.int .i64 (gsX (kOk a) (kBN a) (kBX a) bit k), .int .i64 (gsE (kOk a) (kBN a) (kBX a) bit k)]) ∧ Below w.heap.size w w' := by
 by_cases o8 : kOn a = 2
 ·exact select_r cs a bit k w h hi o8
 have ON0 := fun (w0 : World) (hb : Below w.heap.size w w0) => only_c cs a w0 (h.arg.keep hb)
 have HL := Hid.mk8 h.arg.len
 have sm := h.sm
 have gv := h.gv
 replace h := h.arg
 obtain ⟨cp, cr, cf, rfl, hK, h1, h2, h3⟩ := h
 have l4 := Hid.mk8 h1.four
 have l9 := Hid.mk8 h2.nine
 have LP := Hid.mk8 h1.len
 have LR := Hid.mk8 h2.len
 have LF := Hid.mk8 h3.len
 obtain ⟨K, p, r, f⟩ := a
 dsimp only at *
 have k7 : KI7 w cp p := ⟨h1, sm.p1, sm.p2, sm.p3⟩
 have k8 : KI8 w cr r := ⟨h2, sm.r1, sm.r2, sm.r3, sm.r4, gv⟩
 have k9 : KI9 w cf f := ⟨h3, sm.f0, sm.f1, sm.f2⟩
 have ON : Hid (∀ w0, Below w.heap.size w w0 → Calls Tryz.prog 31 #[.agg (Value.int .i64 K :: (cp ++ (cr ++ cf))).toArray] w0 fun e w' => e = .returned (.int .i64 (kOn ⟨K, p, r, f⟩)) ∧ Below w0.heap.size w0 w') := ON0
 clear ON0 h1 h2 h3 sm gv
 obtain ⟨W, hW⟩ : ∃ W, W = w.alloc (.cells (Value.int .i64 K :: (cp ++ (cr ++ cf))).toArray 37) := ⟨_, rfl⟩
 have bw : Below w.heap.size w W := by rw [hW]; exact below_alloc w _
 have B0 := yc1 hW
 subst hW
 by_cases o7 : kOn ⟨K, p, r, f⟩ = 1
 ·skip
  obtain ⟨e1, e2, e3, e4⟩ := on_p o7
  rw [e1, e2, e3]
  rw [o7] at ON
  have C : Hid (∀ w0, Below w.heap.size w w0 → Calls Tryz.prog 38 #[.agg cp.toArray, .bool bit, .int .i64 k] w0 fun e w' => e = .returned (.tuple #[.int .i64 (gsX (kOk7 p) (kBN7 p) (kBX7 p) bit k), .int .i64 (gsE (kOk7 p) (kBN7 p) (kBX7 p) bit k)]) ∧ Below w0.heap.size w0 w') := fun w0 g => select_k7 cp p bit k w0 (k7.keep g) hi
  clear e1 e2 e3 e4 k7 k8 k9
  generalize gsX (kOk7 p) (kBN7 p) (kBX7 p) bit k = P0 at *
  generalize gsE (kOk7 p) (kBN7 p) (kBX7 p) bit k = P1 at *
  go_enter Tryz.func12, Tryz.ntmps12
  go_wp2_with (refine load_obj w.heap.size _ (by rfl) rfl B0 Tryz.underlying37 HL.out ?_)
  refine (ON.out _ bw).mono ?_
  rintro e w1 ⟨rfl, hb⟩
  replace B0 := B0.kept hb
  replace bw := bw.trans (hb.mono bw.size)
  clear hb
  obtain ⟨c0, p1, p2, p3⟩ := parts l4.out l9.out B0
  go_wp2_with (refine load_part w.heap.size 1 cp (by rfl) rfl p1 Tryz.underlying29 LP.out ?_)
  refine (C.out _ bw).mono ?_
  rintro e w2 ⟨rfl, hb⟩
  replace bw := bw.trans (hb.mono bw.size)
  go_wp2
  go_ret2
  exact ⟨rfl, bw⟩
 by_cases o9 : kOn ⟨K, p, r, f⟩ = 3
 ·skip
  obtain ⟨e1, e2, e3, e4⟩ := on_f o9
  rw [e1, e2, e3]
  rw [o9] at ON
  have C : Hid (∀ w0, Below w.heap.size w w0 → Calls Tryz.prog 40 #[.agg cf.toArray, .bool bit, .int .i64 k] w0 fun e w' => e = .returned (.tuple #[.int .i64 (gsX (kOk9 f) (kBN9 f) (kBX9 f) bit k), .int .i64 (gsE (kOk9 f) (kBN9 f) (kBX9 f) bit k)]) ∧ Below w0.heap.size w0 w') := fun w0 g => select_k9 cf f bit k w0 (k9.keep g) hi
  clear e1 e2 e3 e4 k7 k8 k9
  generalize gsX (kOk9 f) (kBN9 f) (kBX9 f) bit k = P0 at *
  generalize gsE (kOk9 f) (kBN9 f) (kBX9 f) bit k = P1 at *
  go_enter Tryz.func12, Tryz.ntmps12
  go_wp2_with (refine load_obj w.heap.size _ (by rfl) rfl B0 Tryz.underlying37 HL.out ?_)
  refine (ON.out _ bw).mono ?_
  rintro e w1 ⟨rfl, hb⟩
  replace B0 := B0.kept hb
  replace bw := bw.trans (hb.mono bw.size)
  clear hb
  obtain ⟨c0, p1, p2, p3⟩ := parts l4.out l9.out B0
  go_wp2_with (refine load_part w.heap.size 14 cf (by rfl) rfl p3 Tryz.underlying35 LF.out ?_)
  refine (C.out _ bw).mono ?_
  rintro e w2 ⟨rfl, hb⟩
  replace bw := bw.trans (hb.mono bw.size)
  go_wp2
  go_ret2
  exact ⟨rfl, bw⟩
 obtain ⟨e1, e2, e3, e4⟩ := on_n o7 o8 o9
 rw [e1, e2, e3]
 have d7 : (kOn ⟨K, p, r, f⟩ == 1) = false := by simp [o7]
 have d8 : (kOn ⟨K, p, r, f⟩ == 2) = false := by simp [o8]
 have d9 : (kOn ⟨K, p, r, f⟩ == 3) = false := by simp [o9]
 clear e1 e2 e3 e4 k7 k8 k9
 generalize kOn ⟨K, p, r, f⟩ = O at *
 go_enter Tryz.func12, Tryz.ntmps12
 go_wp2_with (refine load_obj w.heap.size _ (by rfl) rfl B0 Tryz.underlying37 HL.out ?_)
 refine (ON.out _ bw).mono ?_
 rintro e w1 ⟨rfl, hb⟩
 replace B0 := B0.kept hb
 replace bw := bw.trans (hb.mono bw.size)
 go_wp2
 go_ret2
 exact ⟨rfl, bw⟩
theorem info_bv : (Tryz.prog.info? 24).map (·.size) = some 2 := by kernel_rfl
theorem bits_r (cs : List Value) (a : RA) (w : World) (h : KI w cs a) (o8 : kOn a = 2) :
  Calls Tryz.prog 24 #[.agg cs.toArray] w fun e w' => ∃ bo bc, e = .returned (.agg #[.int .i64 (kBN a), .slice bo (kBX a).length bc]) ∧ Wd w' bo (kBX a) ∧ (kBX a).length ≤ bc ∧ Below w.heap.size w w' := by
 have ON0 := fun (w0 : World) (hb : Below w.heap.size w w0) => only_c cs a w0 (h.arg.keep hb)
 have HL := Hid.mk8 h.arg.len
 have sm := h.sm
 have gv := h.gv
 replace h := h.arg
 obtain ⟨cp, cr, cf, rfl, hK, h1, h2, h3⟩ := h
 have l4 := Hid.mk8 h1.four
 have l9 := Hid.mk8 h2.nine
 have LP := Hid.mk8 h1.len
 have LR := Hid.mk8 h2.len
 have LF := Hid.mk8 h3.len
 obtain ⟨K, p, r, f⟩ := a
 dsimp only at *
 have k7 : KI7 w cp p := ⟨h1, sm.p1, sm.p2, sm.p3⟩
 have k8 : KI8 w cr r := ⟨h2, sm.r1, sm.r2, sm.r3, sm.r4, gv⟩
 have k9 : KI9 w cf f := ⟨h3, sm.f0, sm.f1, sm.f2⟩
 have ON : Hid (∀ w0, Below w.heap.size w w0 → Calls Tryz.prog 31 #[.agg (Value.int .i64 K :: (cp ++ (cr ++ cf))).toArray] w0 fun e w' => e = .returned (.int .i64 (kOn ⟨K, p, r, f⟩)) ∧ Below w0.heap.size w0 w') := ON0
 clear ON0 h1 h2 h3 sm gv
 have bw : Below w.heap.size w ((w.alloc (.cells (Value.int .i64 K :: (cp ++ (cr ++ cf))).toArray 37)).alloc (.cells #[.int .i64 0, .slice none 0 0] 24)) := (below_alloc w _).alloc (by simp) _
 have B0 : Cel ((w.alloc (.cells (Value.int .i64 K :: (cp ++ (cr ++ cf))).toArray 37)).alloc (.cells #[.int .i64 0, .slice none 0 0] 24)) w.heap.size (Value.int .i64 K :: (cp ++ (cr ++ cf))) 37 := (Cel.new w _ _).alloc _
 have B2 : Cel ((w.alloc (.cells (Value.int .i64 K :: (cp ++ (cr ++ cf))).toArray 37)).alloc (.cells #[.int .i64 0, .slice none 0 0] 24)) (w.heap.size + 1) [.int .i64 0, .slice none 0 0] 24 := Cel.new2 w _ _ _
 obtain ⟨e1, e2, e3, e4⟩ := on_r o8
 rw [e2, e3]
 rw [o8] at ON
 have C : Hid (∀ w0, Below w.heap.size w w0 → Calls Tryz.prog 62 #[.agg cr.toArray] w0 fun e w' => ∃ bo bc, e = .returned (.agg #[.int .i64 (kBN8 r), .slice bo (kBX8 r).length bc]) ∧ Wd w' bo (kBX8 r) ∧ (kBX8 r).length ≤ bc ∧ Below w0.heap.size w0 w') := fun w0 g => bits_k8 cr r w0 (k8.keep g)
 clear e1 e2 e3 e4 k7 k8 k9
 generalize kBN8 r = N at *
 generalize kBX8 r = X at *
 go_enter Tryz.func24, Tryz.ntmps24
 go_wp2_with (refine load_obj w.heap.size _ (by rfl) rfl B0 Tryz.underlying37 HL.out ?_)
 refine (ON.out _ bw).mono ?_
 rintro e w1 ⟨rfl, hb⟩
 replace B0 := B0.kept hb
 replace bw := bw.trans (hb.mono bw.size)
 replace B2 := B2.kept hb
 clear hb
 obtain ⟨c0, p1, p2, p3⟩ := parts l4.out l9.out B0
 go_wp2_with (refine load_part w.heap.size 5 cr (by rfl) rfl p2 Tryz.underlying33 LR.out ?_)
 refine (C.out _ bw).mono ?_
 rintro e w2 ⟨bo, bc, rfl, hx, hbc, hb⟩
 replace bw := bw.trans (hb.mono bw.size)
 replace B2 := B2.kept hb
 clear hb C ON B0 c0 p1 p2 p3
 have hne := hx.apart B2 (by intro v hv n; simp at hv; rcases hv with rfl | rfl <;> simp)
 go_wp2_with (refine store_cel (w.heap.size + 1) _ _ rfl rfl B2 rfl info_bv (by simp [Value.oneCell']) ?_)
 intro w3 B3 O3
 have HZ : Hid (Cel w3 (w.heap.size + 1) [.int .i64 N, .slice bo (List.length X) bc] 24 ∧ Wd w3 bo X ∧ Below w.heap.size w w3) := ⟨B3, O3.wd hx hne, bw.trans (O3.below (Nat.le_succ _))⟩
 clear B3 O3 hx
 go_wp2
 (try simp only [Exit.inBlock, Exit.then])
 exact bodyPost_ret (result_cel1 rfl (w.heap.size + 1) _ rfl HZ.out.1 Tryz.underlying24 info_bv) rfl ⟨bo, bc, rfl, HZ.out.2.1, hbc, HZ.out.2.2⟩
theorem bits_k (cs : List Value) (a : RA) (w : World) (h : KI w cs a) :
  Calls Tryz.prog 24 #[.agg cs.toArray] w fun e w' => ∃ bo bc, e = .returned (.agg #[.int .i64 (kBN a), .slice bo (kBX a).length bc]) ∧ Wd w' bo (kBX a) ∧ (kBX a).length ≤ bc ∧ Below w.heap.size w w' := by
 by_cases o8 : kOn a = 2
 ·exact bits_r cs a w h o8
 have ON0 := fun (w0 : World) (hb : Below w.heap.size w w0) => only_c cs a w0 (h.arg.keep hb)
 have HL := Hid.mk8 h.arg.len
 have sm := h.sm
 have gv := h.gv
 replace h := h.arg
 obtain ⟨cp, cr, cf, rfl, hK, h1, h2, h3⟩ := h
 have l4 := Hid.mk8 h1.four
 have l9 := Hid.mk8 h2.nine
 have LP := Hid.mk8 h1.len
 have LR := Hid.mk8 h2.len
 have LF := Hid.mk8 h3.len
 obtain ⟨K, p, r, f⟩ := a
 dsimp only at *
 have k7 : KI7 w cp p := ⟨h1, sm.p1, sm.p2, sm.p3⟩
 have k8 : KI8 w cr r := ⟨h2, sm.r1, sm.r2, sm.r3, sm.r4, gv⟩
 have k9 : KI9 w cf f := ⟨h3, sm.f0, sm.f1, sm.f2⟩
 have ON : Hid (∀ w0, Below w.heap.size w w0 → Calls Tryz.prog 31 #[.agg (Value.int .i64 K :: (cp ++ (cr ++ cf))).toArray] w0 fun e w' => e = .returned (.int .i64 (kOn ⟨K, p, r, f⟩)) ∧ Below w0.heap.size w0 w') := ON0
 clear ON0 h1 h2 h3 sm gv
 have bw : Below w.heap.size w ((w.alloc (.cells (Value.int .i64 K :: (cp ++ (cr ++ cf))).toArray 37)).alloc (.cells #[.int .i64 0, .slice none 0 0] 24)) := (below_alloc w _).alloc (by simp) _
 have B0 : Cel ((w.alloc (.cells (Value.int .i64 K :: (cp ++ (cr ++ cf))).toArray 37)).alloc (.cells #[.int .i64 0, .slice none 0 0] 24)) w.heap.size (Value.int .i64 K :: (cp ++ (cr ++ cf))) 37 := (Cel.new w _ _).alloc _
 have B2 : Cel ((w.alloc (.cells (Value.int .i64 K :: (cp ++ (cr ++ cf))).toArray 37)).alloc (.cells #[.int .i64 0, .slice none 0 0] 24)) (w.heap.size + 1) [.int .i64 0, .slice none 0 0] 24 := Cel.new2 w _ _ _
 by_cases o7 : kOn ⟨K, p, r, f⟩ = 1
 ·skip
  obtain ⟨e1, e2, e3, e4⟩ := on_p o7
  rw [e2, e3]
  rw [o7] at ON
  have C : Hid (∀ w0, Below w.heap.size w w0 → Calls Tryz.prog 61 #[.agg cp.toArray] w0 fun e w' => ∃ bo bc, e = .returned (.agg #[.int .i64 (kBN7 p), .slice bo (kBX7 p).length bc]) ∧ Wd w' bo (kBX7 p) ∧ (kBX7 p).length ≤ bc ∧ Below w0.heap.size w0 w') := fun w0 g => bits_k7 cp p w0 (k7.keep g)
  clear e1 e2 e3 e4 k7 k8 k9
  generalize kBN7 p = N at *
  generalize kBX7 p = X at *
  go_enter Tryz.func24, Tryz.ntmps24
  go_wp2_with (refine load_obj w.heap.size _ (by rfl) rfl B0 Tryz.underlying37 HL.out ?_)
  refine (ON.out _ bw).mono ?_
  rintro e w1 ⟨rfl, hb⟩
  replace B0 := B0.kept hb
  replace bw := bw.trans (hb.mono bw.size)
  replace B2 := B2.kept hb
  clear hb
  obtain ⟨c0, p1, p2, p3⟩ := parts l4.out l9.out B0
  go_wp2_with (refine load_part w.heap.size 1 cp (by rfl) rfl p1 Tryz.underlying29 LP.out ?_)
  refine (C.out _ bw).mono ?_
  rintro e w2 ⟨bo, bc, rfl, hx, hbc, hb⟩
  replace bw := bw.trans (hb.mono bw.size)
  replace B2 := B2.kept hb
  clear hb C ON B0 c0 p1 p2 p3
  have hne := hx.apart B2 (by intro v hv n; simp at hv; rcases hv with rfl | rfl <;> simp)
  go_wp2_with (refine store_cel (w.heap.size + 1) _ _ rfl rfl B2 rfl info_bv (by simp [Value.oneCell']) ?_)
  intro w3 B3 O3
  have HZ : Hid (Cel w3 (w.heap.size + 1) [.int .i64 N, .slice bo (List.length X) bc] 24 ∧ Wd w3 bo X ∧ Below w.heap.size w w3) := ⟨B3, O3.wd hx hne, bw.trans (O3.below (Nat.le_succ _))⟩
  clear B3 O3 hx
  go_wp2
  (try simp only [Exit.inBlock, Exit.then])
  exact bodyPost_ret (result_cel1 rfl (w.heap.size + 1) _ rfl HZ.out.1 Tryz.underlying24 info_bv) rfl ⟨bo, bc, rfl, HZ.out.2.1, hbc, HZ.out.2.2⟩
 by_cases o9 : kOn ⟨K, p, r, f⟩ = 3
 ·skip
  obtain ⟨e1, e2, e3, e4⟩ := on_f o9
  rw [e2, e3]
  rw [o9] at ON
  have C : Hid (∀ w0, Below w.heap.size w w0 → Calls Tryz.prog 63 #[.agg cf.toArray] w0 fun e w' => ∃ bo bc, e = .returned (.agg #[.int .i64 (kBN9 f), .slice bo (kBX9 f).length bc]) ∧ Wd w' bo (kBX9 f) ∧ (kBX9 f).length ≤ bc ∧ Below w0.heap.size w0 w') := fun w0 g => bits_k9 cf f w0 (k9.keep g)
  clear e1 e2 e3 e4 k7 k8 k9
  generalize kBN9 f = N at *
  generalize kBX9 f = X at *
  go_enter Tryz.func24, Tryz.ntmps24
  go_wp2_with (refine load_obj w.heap.size _ (by rfl) rfl B0 Tryz.underlying37 HL.out ?_)
  refine (ON.out _ bw).mono ?_
  rintro e w1 ⟨rfl, hb⟩
  replace B0 := B0.kept hb
  replace bw := bw.trans (hb.mono bw.size)
  replace B2 := B2.kept hb
  clear hb
  obtain ⟨c0, p1, p2, p3⟩ := parts l4.out l9.out B0
  go_wp2_with (refine load_part w.heap.size 14 cf (by rfl) rfl p3 Tryz.underlying35 LF.out ?_)
  refine (C.out _ bw).mono ?_
  rintro e w2 ⟨bo, bc, rfl, hx, hbc, hb⟩
  replace bw := bw.trans (hb.mono bw.size)
  replace B2 := B2.kept hb
  clear hb C ON B0 c0 p1 p2 p3
  have hne := hx.apart B2 (by intro v hv n; simp at hv; rcases hv with rfl | rfl <;> simp)
  go_wp2_with (refine store_cel (w.heap.size + 1) _ _ rfl rfl B2 rfl info_bv (by simp [Value.oneCell']) ?_)
  intro w3 B3 O3
  have HZ : Hid (Cel w3 (w.heap.size + 1) [.int .i64 N, .slice bo (List.length X) bc] 24 ∧ Wd w3 bo X ∧ Below w.heap.size w w3) := ⟨B3, O3.wd hx hne, bw.trans (O3.below (Nat.le_succ _))⟩
  clear B3 O3 hx
  go_wp2
  (try simp only [Exit.inBlock, Exit.then])
  exact bodyPost_ret (result_cel1 rfl (w.heap.size + 1) _ rfl HZ.out.1 Tryz.underlying24 info_bv) rfl ⟨bo, bc, rfl, HZ.out.2.1, hbc, HZ.out.2.2⟩
 obtain ⟨e1, e2, e3, e4⟩ := on_n o7 o8 o9
 rw [e2, e3]
 have d7 : (kOn ⟨K, p, r, f⟩ == 1) = false := by simp [o7]
 have d8 : (kOn ⟨K, p, r, f⟩ == 2) = false := by simp [o8]
 have d9 : (kOn ⟨K, p, r, f⟩ == 3) = false := by simp [o9]
 clear e1 e2 e3 e4 k7 k8 k9
 generalize kOn ⟨K, p, r, f⟩ = O at *
 go_enter Tryz.func24, Tryz.ntmps24
 go_wp2_with (refine load_obj w.heap.size _ (by rfl) rfl B0 Tryz.underlying37 HL.out ?_)
 refine (ON.out _ bw).mono ?_
 rintro e w1 ⟨rfl, hb⟩
 replace B0 := B0.kept hb
 replace bw := bw.trans (hb.mono bw.size)
 replace B2 := B2.kept hb
 clear hb ON B0
 go_wp2_with (refine store_cel (w.heap.size + 1) _ _ rfl rfl B2 rfl info_bv (by simp [Value.oneCell']) ?_)
 intro w3 B3 O3
 have HZ : Hid (Cel w3 (w.heap.size + 1) [.int .i64 0, .slice none 0 0] 24 ∧ Below w.heap.size w w3) := ⟨B3, bw.trans (O3.below (Nat.le_succ _))⟩
 clear B3 O3
 go_wp2
 (try simp only [Exit.inBlock, Exit.then])
 exact bodyPost_ret (result_cel1 rfl (w.heap.size + 1) _ rfl HZ.out.1 Tryz.underlying24 info_bv) rfl ⟨none, 0, rfl, wd0' _ _, Nat.le_refl _, HZ.out.2⟩
end Go.Proofs.YtpeecabfcgijhaaGreatDoor
namespace Go.Proofs.YtpeecabfcgijhaaGreatDoor
open Go.ChangeShapes Go.WideShapes Go.ChangeAt Go.RowKit Go.Joins Go.Deep Num Bit
theorem trod_struct4 {H : Type} {enc : TypeId × Value → H} {P : Program} {w : World} {base : Nat} {spare : Nat → Bool} {held : Bool} {t : TypeId} {f0 f1 f2 f3 : Field} {fuel : Nat} {cs : List Value} {x : DataW H × List MemPlace} (ht : P.underlying t = some (.struct #[f0, f1, f2, f3])) (h : DataW.trod enc P w base spare held fuel t cs = some x) :
  ∃ y0 y1 y2 y3 n, DataW.trod enc P w base spare held n f0.type ((cs.drop f0.offset).take (P.cellsOf f0.type)) = some y0 ∧
   DataW.trod enc P w base spare held n f1.type ((cs.drop f1.offset).take (P.cellsOf f1.type)) = some y1 ∧ DataW.trod enc P w base spare held n f2.type ((cs.drop f2.offset).take (P.cellsOf f2.type)) = some y2 ∧
   DataW.trod enc P w base spare held n f3.type ((cs.drop f3.offset).take (P.cellsOf f3.type)) = some y3 := by
 obtain ⟨xs, n, _, rfl, hl, hlen, hf⟩ := DataW.trod_struct ht h
 match xs, hlen with
 | [y0, y1, y2, y3], _ => exact ⟨y0, y1, y2, y3, n, by simpa using hf 0 f0 rfl, by simpa using hf 1 f1 rfl, by simpa using hf 2 f2 rfl, by simpa using hf 3 f3 rfl⟩
theorem kB_ok9 (N : Int) (xs : List Nat) (hf : Fit xs) (hk : chk N xs = true) (hN : N ≤ 3000) : kOk9 (kB9 N xs) = true ∧ kBN9 (kB9 N xs) = N ∧ kBX9 (kB9 N xs) = xs := by
 obtain ⟨h0, h1, _, _⟩ := chk_out N xs hk
 obtain ⟨n, rfl⟩ := Int.eq_ofNat_of_zero_le h0
 have hn : n ≤ 3000 := by omega
 obtain ⟨L, hL⟩ : ∃ L, L = plc (bitAt xs) n := ⟨_, rfl⟩
 have RS : Rise L n := by rw [hL]; exact plc_rise _ _
 have mn := RS.len
 have v20 := wdF_le n L.length (by omega)
 have e : kB9 (n : Int) xs = fOf n L := by
  unfold kB9
  rw [if_pos hk, Int.toNat_natCast, ← hL]
 have hE : n / 2 ^ wdF n L.length ≤ n := Nat.div_le_self _ _
 have hrow : fRow (fOf n L) = some L := by
  refine fRow_of RS (by omega) (by unfold hiN; omega) ?_
  have l1 := length_lo_le L (wdF n L.length)
  have l3 : (loP L (wdF n L.length)).length * max (wdF n L.length) 1 ≤ 3000 * 20 := Nat.mul_le_mul (by omega) (by omega)
  omega
 have ok : kOk9 (fOf n L) = true := by
  unfold kOk9
  rw [hrow]
  exact (fSame_iff _ _).2 rfl
 rw [e]
 refine ⟨ok, ?_, ?_⟩
 ·unfold kBN9
  rw [if_pos ok]
  rfl
 ·unfold kBX9 kRow
  rw [if_pos ok, hrow]
  show rowOf n (isIn L) = xs
  have hy := chk_row (n : Int) xs hf hk
  rw [Int.toNat_natCast] at hy
  rw [rowOf_congr n _ (bitAt xs) fun j hj => by rw [hL, isIn_plc, decide_eq_true hj, Bool.true_and]]
  exact hy.symm
end Go.Proofs.YtpeecabfcgijhaaGreatDoor
