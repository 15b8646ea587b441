/-
  The contracts of the program's Check, Size, Access, Rank, Select and Bits of a row that is a plain one. Rows of the plain kind. Plain: a row has as many ones as symbols have that bit. The contracts of the document's none, nones and zero. The contracts of the document's functions of plain rows, over objects. The contract of the document's row of layer 9: the places that one tells.
-/
import Derived.Test.YtjahipjghenbjaaGreatDoorL23
import Derived.Test.YtjahipjghenbjaaGreatDoorL27
import Derived.Test.YtjahipjghenbjaaGreatDoorL40
import Derived.Test.YtjahipjghenbjaaGreatDoorL21
import Derived.Test.YtjahipjghenbjaaGreatDoorL12
import Derived.Deep.DeepCutAuto
import Derived.Test.YtjahipjghenbjaaGreatDoorL14
import Derived.Test.YtjahipjghenbjaaGreatDoorL04
set_option linter.unusedVariables false
set_option linter.unusedSimpArgs false
set_option maxRecDepth 100000
set_option maxHeartbeats 16000000
namespace Go.Proofs.YtjahipjghenbjaaGreatDoor
open Go.RowKit Num Bit
theorem check_q (cs : List Value) (a : RA) (w : World) (h : KI w cs a) (o7 : kOn a = 1) :
  Calls Tryz.prog 47 #[.agg cs.toArray] w fun e w' => e = .returned (.bool (kOk a)) ∧ Below w.heap.size w w' := by
 have ON0 := fun (w0 : World) (hb : Below w.heap.size w w0) => only_c cs a w0 (h.arg.keep hb)
 have HL := Hid.mk8 h.arg.len
 have sm := h.sm
 replace h := h.arg
 obtain ⟨cp, cr, cf, rfl, hK, h1, h2, h3⟩ := h
 have l4 := Hid.mk8 h1.four
 have l9 := Hid.mk8 h2.nine
 have LP := Hid.mk8 h1.len
 have LR := Hid.mk8 h2.len
 have LF := Hid.mk8 h3.len
 obtain ⟨K, p, r, f⟩ := a
 dsimp only at *
 have k7 : KI7 w cp p := ⟨h1, sm.p1, sm.p2, sm.p3⟩
 have k8 : KI8 w cr r := ⟨h2, sm.r1, sm.r2, sm.r3, sm.r4⟩
 have k9 : KI9 w cf f := ⟨h3, sm.f0, sm.f1, sm.f2⟩
 have ON : Hid (∀ w0, Below w.heap.size w w0 → Calls Tryz.prog 62 #[.agg (Value.int .i64 K :: (cp ++ (cr ++ cf))).toArray] w0 fun e w' => e = .returned (.int .i64 (kOn ⟨K, p, r, f⟩)) ∧ Below w0.heap.size w0 w') := ON0
 clear ON0 h1 h2 h3 sm
 obtain ⟨W, hW⟩ : ∃ W, W = w.alloc (.cells (Value.int .i64 K :: (cp ++ (cr ++ cf))).toArray 45) := ⟨_, rfl⟩
 have bw : Below w.heap.size w W := by rw [hW]; exact below_alloc w _
 have B0 := yc1 hW
 subst hW
 obtain ⟨e1, e2, e3, e4⟩ := on_p o7
 rw [e1]
 rw [o7] at ON
 have C : Hid (∀ w0, Below w.heap.size w w0 → Calls Tryz.prog 84 #[.agg cp.toArray] w0 fun e w' => e = .returned (.bool (kOk7 p)) ∧ Below w0.heap.size w0 w') := fun w0 g => check_k7 cp p w0 (k7.keep g)
 clear e1 e2 e3 e4 k7 k8 k9
 generalize kOk7 p = P0 at *
 go_enter Tryz.func47, Tryz.ntmps47
 go_wp2_with (refine load_obj w.heap.size _ (by rfl) rfl B0 Tryz.underlying45 HL.out ?_)
 refine (ON.out _ bw).mono ?_
 rintro e w1 ⟨rfl, hb⟩
 replace B0 := B0.kept hb
 replace bw := bw.trans (hb.mono bw.size)
 clear hb
 obtain ⟨c0, p1, p2, p3⟩ := parts l4.out l9.out B0
 go_wp2_with (refine load_part w.heap.size 1 cp (by rfl) rfl p1 Tryz.underlying37 LP.out ?_)
 refine (C.out _ bw).mono ?_
 rintro e w2 ⟨rfl, hb⟩
 replace bw := bw.trans (hb.mono bw.size)
 go_wp2
 go_ret
 exact ⟨rfl, bw⟩
theorem size_q (cs : List Value) (a : RA) (w : World) (h : KI w cs a) (o7 : kOn a = 1) :
  Calls Tryz.prog 42 #[.agg cs.toArray] w fun e w' => e = .returned (.int .i64 (kZ a)) ∧ Below w.heap.size w w' := by
 have ON0 := fun (w0 : World) (hb : Below w.heap.size w w0) => only_c cs a w0 (h.arg.keep hb)
 have HL := Hid.mk8 h.arg.len
 have sm := h.sm
 replace h := h.arg
 obtain ⟨cp, cr, cf, rfl, hK, h1, h2, h3⟩ := h
 have l4 := Hid.mk8 h1.four
 have l9 := Hid.mk8 h2.nine
 have LP := Hid.mk8 h1.len
 have LR := Hid.mk8 h2.len
 have LF := Hid.mk8 h3.len
 obtain ⟨K, p, r, f⟩ := a
 dsimp only at *
 have k7 : KI7 w cp p := ⟨h1, sm.p1, sm.p2, sm.p3⟩
 have k8 : KI8 w cr r := ⟨h2, sm.r1, sm.r2, sm.r3, sm.r4⟩
 have k9 : KI9 w cf f := ⟨h3, sm.f0, sm.f1, sm.f2⟩
 have ON : Hid (∀ w0, Below w.heap.size w w0 → Calls Tryz.prog 62 #[.agg (Value.int .i64 K :: (cp ++ (cr ++ cf))).toArray] w0 fun e w' => e = .returned (.int .i64 (kOn ⟨K, p, r, f⟩)) ∧ Below w0.heap.size w0 w') := ON0
 clear ON0 h1 h2 h3 sm
 obtain ⟨W, hW⟩ : ∃ W, W = w.alloc (.cells (Value.int .i64 K :: (cp ++ (cr ++ cf))).toArray 45) := ⟨_, rfl⟩
 have bw : Below w.heap.size w W := by rw [hW]; exact below_alloc w _
 have B0 := yc1 hW
 subst hW
 obtain ⟨e1, e2, e3, e4⟩ := on_p o7
 rw [e4]
 rw [o7] at ON
 have C : Hid (∀ w0, Below w.heap.size w w0 → Calls Tryz.prog 73 #[.agg cp.toArray] w0 fun e w' => e = .returned (.int .i64 (kZ7 p)) ∧ Below w0.heap.size w0 w') := fun w0 g => size_k7 cp p w0 (k7.keep g)
 clear e1 e2 e3 e4 k7 k8 k9
 generalize kZ7 p = P0 at *
 go_enter Tryz.func42, Tryz.ntmps42
 go_wp2_with (refine load_obj w.heap.size _ (by rfl) rfl B0 Tryz.underlying45 HL.out ?_)
 refine (ON.out _ bw).mono ?_
 rintro e w1 ⟨rfl, hb⟩
 replace B0 := B0.kept hb
 replace bw := bw.trans (hb.mono bw.size)
 clear hb
 obtain ⟨c0, p1, p2, p3⟩ := parts l4.out l9.out B0
 go_wp2_with (refine load_part w.heap.size 1 cp (by rfl) rfl p1 Tryz.underlying37 LP.out ?_)
 refine (C.out _ bw).mono ?_
 rintro e w2 ⟨rfl, hb⟩
 replace bw := bw.trans (hb.mono bw.size)
 go_wp2
 go_ret
 exact ⟨rfl, bw⟩
theorem access_q (cs : List Value) (a : RA) (i : Int) (w : World) (h : KI w cs a) (hi : I64 i) (o7 : kOn a = 1) :
  Calls Tryz.prog 32 #[.agg cs.toArray, .int .i64 i] w fun e w' => e = .returned (.tuple #[.bool (gaB (kOk a) (kBN a) (kBX a) i), .int .i64 (gaE (kOk a) (kBN a) (kBX a) i)]) ∧ Below w.heap.size w w' := by
 have ON0 := fun (w0 : World) (hb : Below w.heap.size w w0) => only_c cs a w0 (h.arg.keep hb)
 have HL := Hid.mk8 h.arg.len
 have sm := h.sm
 replace h := h.arg
 obtain ⟨cp, cr, cf, rfl, hK, h1, h2, h3⟩ := h
 have l4 := Hid.mk8 h1.four
 have l9 := Hid.mk8 h2.nine
 have LP := Hid.mk8 h1.len
 have LR := Hid.mk8 h2.len
 have LF := Hid.mk8 h3.len
 obtain ⟨K, p, r, f⟩ := a
 dsimp only at *
 have k7 : KI7 w cp p := ⟨h1, sm.p1, sm.p2, sm.p3⟩
 have k8 : KI8 w cr r := ⟨h2, sm.r1, sm.r2, sm.r3, sm.r4⟩
 have k9 : KI9 w cf f := ⟨h3, sm.f0, sm.f1, sm.f2⟩
 have ON : Hid (∀ w0, Below w.heap.size w w0 → Calls Tryz.prog 62 #[.agg (Value.int .i64 K :: (cp ++ (cr ++ cf))).toArray] w0 fun e w' => e = .returned (.int .i64 (kOn ⟨K, p, r, f⟩)) ∧ Below w0.heap.size w0 w') := ON0
 clear ON0 h1 h2 h3 sm
 obtain ⟨W, hW⟩ : ∃ W, W = w.alloc (.cells (Value.int .i64 K :: (cp ++ (cr ++ cf))).toArray 45) := ⟨_, rfl⟩
 have bw : Below w.heap.size w W := by rw [hW]; exact below_alloc w _
 have B0 := yc1 hW
 subst hW
 obtain ⟨e1, e2, e3, e4⟩ := on_p o7
 rw [e1, e2, e3]
 rw [o7] at ON
 have C : Hid (∀ w0, Below w.heap.size w w0 → Calls Tryz.prog 63 #[.agg cp.toArray, .int .i64 i] w0 fun e w' => e = .returned (.tuple #[.bool (gaB (kOk7 p) (kBN7 p) (kBX7 p) i), .int .i64 (gaE (kOk7 p) (kBN7 p) (kBX7 p) i)]) ∧ Below w0.heap.size w0 w') := fun w0 g => access_k7 cp p i w0 (k7.keep g) hi
 clear e1 e2 e3 e4 k7 k8 k9
 generalize gaB (kOk7 p) (kBN7 p) (kBX7 p) i = P0 at *
 generalize gaE (kOk7 p) (kBN7 p) (kBX7 p) i = P1 at *
 go_enter Tryz.func32, Tryz.ntmps32
 go_wp2_with (refine load_obj w.heap.size _ (by rfl) rfl B0 Tryz.underlying45 HL.out ?_)
 refine (ON.out _ bw).mono ?_
 rintro e w1 ⟨rfl, hb⟩
 replace B0 := B0.kept hb
 replace bw := bw.trans (hb.mono bw.size)
 clear hb
 obtain ⟨c0, p1, p2, p3⟩ := parts l4.out l9.out B0
 go_wp2_with (refine load_part w.heap.size 1 cp (by rfl) rfl p1 Tryz.underlying37 LP.out ?_)
 refine (C.out _ bw).mono ?_
 rintro e w2 ⟨rfl, hb⟩
 replace bw := bw.trans (hb.mono bw.size)
 go_wp2
 go_ret2
 exact ⟨rfl, bw⟩
theorem rank_q (cs : List Value) (a : RA) (bit : Bool) (i : Int) (w : World) (h : KI w cs a) (hi : I64 i) (o7 : kOn a = 1) :
  Calls Tryz.prog 66 #[.agg cs.toArray, .bool bit, .int .i64 i] w fun e w' => e = .returned (.tuple #[.int .i64 (grN (kOk a) (kBN a) (kBX a) bit i), .int .i64 (grE (kOk a) (kBN a) i)]) ∧ Below w.heap.size w w' := by
 have ON0 := fun (w0 : World) (hb : Below w.heap.size w w0) => only_c cs a w0 (h.arg.keep hb)
 have HL := Hid.mk8 h.arg.len
 have sm := h.sm
 replace h := h.arg
 obtain ⟨cp, cr, cf, rfl, hK, h1, h2, h3⟩ := h
 have l4 := Hid.mk8 h1.four
 have l9 := Hid.mk8 h2.nine
 have LP := Hid.mk8 h1.len
 have LR := Hid.mk8 h2.len
 have LF := Hid.mk8 h3.len
 obtain ⟨K, p, r, f⟩ := a
 dsimp only at *
 have k7 : KI7 w cp p := ⟨h1, sm.p1, sm.p2, sm.p3⟩
 have k8 : KI8 w cr r := ⟨h2, sm.r1, sm.r2, sm.r3, sm.r4⟩
 have k9 : KI9 w cf f := ⟨h3, sm.f0, sm.f1, sm.f2⟩
 have ON : Hid (∀ w0, Below w.heap.size w w0 → Calls Tryz.prog 62 #[.agg (Value.int .i64 K :: (cp ++ (cr ++ cf))).toArray] w0 fun e w' => e = .returned (.int .i64 (kOn ⟨K, p, r, f⟩)) ∧ Below w0.heap.size w0 w') := ON0
 clear ON0 h1 h2 h3 sm
 obtain ⟨W, hW⟩ : ∃ W, W = w.alloc (.cells (Value.int .i64 K :: (cp ++ (cr ++ cf))).toArray 45) := ⟨_, rfl⟩
 have bw : Below w.heap.size w W := by rw [hW]; exact below_alloc w _
 have B0 := yc1 hW
 subst hW
 obtain ⟨e1, e2, e3, e4⟩ := on_p o7
 rw [e1, e2, e3]
 rw [o7] at ON
 have C : Hid (∀ w0, Below w.heap.size w w0 → Calls Tryz.prog 122 #[.agg cp.toArray, .bool bit, .int .i64 i] w0 fun e w' => e = .returned (.tuple #[.int .i64 (grN (kOk7 p) (kBN7 p) (kBX7 p) bit i), .int .i64 (grE (kOk7 p) (kBN7 p) i)]) ∧ Below w0.heap.size w0 w') := fun w0 g => rank_k7 cp p bit i w0 (k7.keep g) hi
 clear e1 e2 e3 e4 k7 k8 k9
 generalize grN (kOk7 p) (kBN7 p) (kBX7 p) bit i = P0 at *
 generalize grE (kOk7 p) (kBN7 p) i = P1 at *
 go_enter Tryz.func66, Tryz.ntmps66
 go_wp2_with (refine load_obj w.heap.size _ (by rfl) rfl B0 Tryz.underlying45 HL.out ?_)
 refine (ON.out _ bw).mono ?_
 rintro e w1 ⟨rfl, hb⟩
 replace B0 := B0.kept hb
 replace bw := bw.trans (hb.mono bw.size)
 clear hb
 obtain ⟨c0, p1, p2, p3⟩ := parts l4.out l9.out B0
 go_wp2_with (refine load_part w.heap.size 1 cp (by rfl) rfl p1 Tryz.underlying37 LP.out ?_)
 refine (C.out _ bw).mono ?_
 rintro e w2 ⟨rfl, hb⟩
 replace bw := bw.trans (hb.mono bw.size)
 go_wp2
 go_ret2
 exact ⟨rfl, bw⟩
theorem select_q (cs : List Value) (a : RA) (bit : Bool) (k : Int) (w : World) (h : KI w cs a) (hi : I64 k) (o7 : kOn a = 1) :
  Calls Tryz.prog 46 #[.agg cs.toArray, .bool bit, .int .i64 k] w fun e w' => e = .returned (.tuple #[.int .i64 (gsX (kOk a) (kBN a) (kBX a) bit k), .int .i64 (gsE (kOk a) (kBN a) (kBX a) bit k)]) ∧ Below w.heap.size w w' := by
 have ON0 := fun (w0 : World) (hb : Below w.heap.size w w0) => only_c cs a w0 (h.arg.keep hb)
 have HL := Hid.mk8 h.arg.len
 have sm := h.sm
 replace h := h.arg
 obtain ⟨cp, cr, cf, rfl, hK, h1, h2, h3⟩ := h
 have l4 := Hid.mk8 h1.four
 have l9 := Hid.mk8 h2.nine
 have LP := Hid.mk8 h1.len
 have LR := Hid.mk8 h2.len
 have LF := Hid.mk8 h3.len
 obtain ⟨K, p, r, f⟩ := a
 dsimp only at *
 have k7 : KI7 w cp p := ⟨h1, sm.p1, sm.p2, sm.p3⟩
 have k8 : KI8 w cr r := ⟨h2, sm.r1, sm.r2, sm.r3, sm.r4⟩
 have k9 : KI9 w cf f := ⟨h3, sm.f0, sm.f1, sm.f2⟩
 have ON : Hid (∀ w0, Below w.heap.size w w0 → Calls Tryz.prog 62 #[.agg (Value.int .i64 K :: (cp ++ (cr ++ cf))).toArray] w0 fun e w' => e = .returned (.int .i64 (kOn ⟨K, p, r, f⟩)) ∧ Below w0.heap.size w0 w') := ON0
 clear ON0 h1 h2 h3 sm
 obtain ⟨W, hW⟩ : ∃ W, W = w.alloc (.cells (Value.int .i64 K :: (cp ++ (cr ++ cf))).toArray 45) := ⟨_, rfl⟩
 have bw : Below w.heap.size w W := by rw [hW]; exact below_alloc w _
 have B0 := yc1 hW
 subst hW
 obtain ⟨e1, e2, e3, e4⟩ := on_p o7
 rw [e1, e2, e3]
 rw [o7] at ON
 have C : Hid (∀ w0, Below w.heap.size w w0 → Calls Tryz.prog 81 #[.agg cp.toArray, .bool bit, .int .i64 k] w0 fun e w' => e = .returned (.tuple #[.int .i64 (gsX (kOk7 p) (kBN7 p) (kBX7 p) bit k), .int .i64 (gsE (kOk7 p) (kBN7 p) (kBX7 p) bit k)]) ∧ Below w0.heap.size w0 w') := fun w0 g => select_k7 cp p bit k w0 (k7.keep g) hi
 clear e1 e2 e3 e4 k7 k8 k9
 generalize gsX (kOk7 p) (kBN7 p) (kBX7 p) bit k = P0 at *
 generalize gsE (kOk7 p) (kBN7 p) (kBX7 p) bit k = P1 at *
 go_enter Tryz.func46, Tryz.ntmps46
 go_wp2_with (refine load_obj w.heap.size _ (by rfl) rfl B0 Tryz.underlying45 HL.out ?_)
 refine (ON.out _ bw).mono ?_
 rintro e w1 ⟨rfl, hb⟩
 replace B0 := B0.kept hb
 replace bw := bw.trans (hb.mono bw.size)
 clear hb
 obtain ⟨c0, p1, p2, p3⟩ := parts l4.out l9.out B0
 go_wp2_with (refine load_part w.heap.size 1 cp (by rfl) rfl p1 Tryz.underlying37 LP.out ?_)
 refine (C.out _ bw).mono ?_
 rintro e w2 ⟨rfl, hb⟩
 replace bw := bw.trans (hb.mono bw.size)
 go_wp2
 go_ret2
 exact ⟨rfl, bw⟩
theorem info_bq : (Tryz.prog.info? 33).map (·.size) = some 2 := by kernel_rfl
theorem bits_q (cs : List Value) (a : RA) (w : World) (h : KI w cs a) (o7 : kOn a = 1) :
  Calls Tryz.prog 49 #[.agg cs.toArray] w fun e w' => ∃ bo bc, e = .returned (.agg #[.int .i64 (kBN a), .slice bo (kBX a).length bc]) ∧ Wd w' bo (kBX a) ∧ (kBX a).length ≤ bc ∧ Below w.heap.size w w' := by
 have ON0 := fun (w0 : World) (hb : Below w.heap.size w w0) => only_c cs a w0 (h.arg.keep hb)
 have HL := Hid.mk8 h.arg.len
 have sm := h.sm
 replace h := h.arg
 obtain ⟨cp, cr, cf, rfl, hK, h1, h2, h3⟩ := h
 have l4 := Hid.mk8 h1.four
 have l9 := Hid.mk8 h2.nine
 have LP := Hid.mk8 h1.len
 have LR := Hid.mk8 h2.len
 have LF := Hid.mk8 h3.len
 obtain ⟨K, p, r, f⟩ := a
 dsimp only at *
 have k7 : KI7 w cp p := ⟨h1, sm.p1, sm.p2, sm.p3⟩
 have k8 : KI8 w cr r := ⟨h2, sm.r1, sm.r2, sm.r3, sm.r4⟩
 have k9 : KI9 w cf f := ⟨h3, sm.f0, sm.f1, sm.f2⟩
 have ON : Hid (∀ w0, Below w.heap.size w w0 → Calls Tryz.prog 62 #[.agg (Value.int .i64 K :: (cp ++ (cr ++ cf))).toArray] w0 fun e w' => e = .returned (.int .i64 (kOn ⟨K, p, r, f⟩)) ∧ Below w0.heap.size w0 w') := ON0
 clear ON0 h1 h2 h3 sm
 have bw : Below w.heap.size w ((w.alloc (.cells (Value.int .i64 K :: (cp ++ (cr ++ cf))).toArray 45)).alloc (.cells #[.int .i64 0, .slice none 0 0] 33)) := (below_alloc w _).alloc (by simp) _
 have B0 : Cel ((w.alloc (.cells (Value.int .i64 K :: (cp ++ (cr ++ cf))).toArray 45)).alloc (.cells #[.int .i64 0, .slice none 0 0] 33)) w.heap.size (Value.int .i64 K :: (cp ++ (cr ++ cf))) 45 := (Cel.new w _ _).alloc _
 have B2 : Cel ((w.alloc (.cells (Value.int .i64 K :: (cp ++ (cr ++ cf))).toArray 45)).alloc (.cells #[.int .i64 0, .slice none 0 0] 33)) (w.heap.size + 1) [.int .i64 0, .slice none 0 0] 33 := Cel.new2 w _ _ _
 obtain ⟨e1, e2, e3, e4⟩ := on_p o7
 rw [e2, e3]
 rw [o7] at ON
 have C : Hid (∀ w0, Below w.heap.size w w0 → Calls Tryz.prog 87 #[.agg cp.toArray] w0 fun e w' => ∃ bo bc, e = .returned (.agg #[.int .i64 (kBN7 p), .slice bo (kBX7 p).length bc]) ∧ Wd w' bo (kBX7 p) ∧ (kBX7 p).length ≤ bc ∧ Below w0.heap.size w0 w') := fun w0 g => bits_k7 cp p w0 (k7.keep g)
 clear e1 e2 e3 e4 k7 k8 k9
 generalize kBN7 p = N at *
 generalize kBX7 p = X at *
 go_enter Tryz.func49, Tryz.ntmps49
 go_wp2_with (refine load_obj w.heap.size _ (by rfl) rfl B0 Tryz.underlying45 HL.out ?_)
 refine (ON.out _ bw).mono ?_
 rintro e w1 ⟨rfl, hb⟩
 replace B0 := B0.kept hb
 replace bw := bw.trans (hb.mono bw.size)
 replace B2 := B2.kept hb
 clear hb
 obtain ⟨c0, p1, p2, p3⟩ := parts l4.out l9.out B0
 go_wp2_with (refine load_part w.heap.size 1 cp (by rfl) rfl p1 Tryz.underlying37 LP.out ?_)
 refine (C.out _ bw).mono ?_
 rintro e w2 ⟨bo, bc, rfl, hx, hbc, hb⟩
 replace bw := bw.trans (hb.mono bw.size)
 replace B2 := B2.kept hb
 clear hb C ON B0 c0 p1 p2 p3
 have hne := hx.apart B2 (by intro v hv n; simp at hv; rcases hv with rfl | rfl <;> simp)
 go_wp2_with (refine store_cel (w.heap.size + 1) _ _ rfl rfl B2 rfl info_bq (by simp [Value.oneCell']) ?_)
 intro w3 B3 O3
 have HZ : Hid (Cel w3 (w.heap.size + 1) [.int .i64 N, .slice bo (List.length X) bc] 33 ∧ Wd w3 bo X ∧ Below w.heap.size w w3) := ⟨B3, O3.wd hx hne, bw.trans (O3.below (Nat.le_succ _))⟩
 clear B3 O3 hx
 go_wp2
 (try simp only [Exit.inBlock, Exit.then])
 exact bodyPost_ret (result_cel1 rfl (w.heap.size + 1) _ rfl HZ.out.1 Tryz.underlying33 info_bq) rfl ⟨bo, bc, rfl, HZ.out.2.1, hbc, HZ.out.2.2⟩
theorem vcP : VC plK := ⟨fun cs a w h o => check_q cs a w h o, fun cs a w h o => size_q cs a w h o⟩
theorem vrP : VR plK := ⟨fun cs a w h o => bits_q cs a w h o, fun cs a i w h o hi => access_q cs a i w h hi o, fun cs a b i w h o hi => rank_q cs a b i w h hi o, fun cs a b k w h o hi => select_q cs a b k w h hi o⟩
theorem heads_c (w : World) : Calls Tryz.prog 8 #[] w fun e w' => e = .returned (.bool true) ∧ Below w.heap.size w w' := heads_g vcP vrP w
end Go.Proofs.YtjahipjghenbjaaGreatDoor
namespace Go.Proofs.YtjahipjghenbjaaGreatDoor
open Num Bit
namespace Tw
theorem flat_cnt (t : List Nat) (l p : Nat) (f : Nat → Bool) : (((List.range p).flatMap (seg t l)).filter f).length = ((List.range t.length).filter fun i => decide (hi l (gt t i) < p) && f i).length := by
 induction p with
 | zero =>
  have e : ((List.range t.length).filter fun i => decide (hi l (gt t i) < 0) && f i) = [] := List.filter_eq_nil_iff.2 (fun a _ => by simp)
  rw [e]
  rfl
 | succ p ih =>
  rw [List.range_succ, List.flatMap_append, List.filter_append, List.length_append, ih]
  simp only [List.flatMap_cons, List.flatMap_nil, List.append_nil]
  unfold seg sg
  rw [List.filter_filter]
  refine (filt_or _ _ _ _ (fun x _ => ?_) (fun x _ => ?_)).symm
  ·rw [Bool.eq_iff_iff]
   simp only [Bool.or_eq_true, Bool.and_eq_true, decide_eq_true_eq]
   constructor
   ·intro h
    by_cases c : hi l (gt t x) = p
    ·exact .inr ⟨h.2, c⟩
    ·exact .inl ⟨by omega, h.2⟩
   ·rintro (h | h)
    ·exact ⟨by omega, h.2⟩
    ·exact ⟨by omega, h.1⟩
  ·simp only [Bool.and_eq_true, decide_eq_true_eq]; omega
def on (t : List Nat) (l i : Nat) : Nat := ((List.range i).filter fun j => tb l (gt t j)).length
theorem on_zero (t : List Nat) (l : Nat) : on t l 0 = 0 := rfl
theorem on_succ (t : List Nat) (l i : Nat) : on t l (i + 1) = on t l i + (tb l (gt t i)).toNat := by
 unfold on
 rw [List.range_succ, List.filter_append, List.length_append]
 cases h : tb l (gt t i) <;> simp [h]
theorem on_le (t : List Nat) (l i : Nat) : on t l i ≤ i := by
 unfold on
 exact Nat.le_trans (List.length_filter_le _ _) (by simp)
theorem ones_row (t xs : List Nat) (l : Nat) (hl : l < 8) (hb : Byt t) (hx : ∀ k, k < t.length → bitAt xs k = rb t l k) : cntB xs t.length = on t l t.length := by
 have hln := length_plc t l (by omega) hb
 have e : cntB xs t.length = cB xs true t.length := rfl
 rw [e, cB_take xs (plc t l) (fun x => tb l (gt t x)) true t.length (by omega) hx, ← hln, List.take_length]
 unfold plc on
 rw [flat_cnt]
 rw [show ((List.range (2 ^ l)).flatMap (seg t l)).length = t.length from hln]
 congr 1
 refine List.filter_congr fun i _ => ?_
 rw [show decide (hi l (gt t i) < 2 ^ l) = true from decide_eq_true (hi_lt (by omega) (hb i)), Bool.true_and]
 cases tb l (gt t i) <;> rfl
end Tw
theorem tb_rem (c l : Nat) (hl : l < 8) : c / 2 ^ (7 - l) % 2 = (Tw.tb l c).toNat := by
 unfold Tw.tb
 rw [Nat.testBit_eq_decide_div_mod_eq]
 rcases Nat.mod_two_eq_zero_or_one (c / 2 ^ (7 - l)) with h | h <;> simp [h]
theorem ones_all (n : Nat) (xs : List Nat) (h : chk (n : Int) xs = true) : onesI (n : Int) xs (n : Int) = (cntB xs n : Int) := by
 unfold onesI
 rw [h, if_pos rfl, show (min (n : Int) (n : Int)).toNat = n by omega]
end Go.Proofs.YtjahipjghenbjaaGreatDoor
namespace Go.Proofs.YtjahipjghenbjaaGreatDoor
open Go.RowKit Num Bit
theorem norw1 (N : Int) (n : Nat) : norw [(N, n)] = (decide (N = 0) && decide ((n : Int) = 0)) := by simp [norw]
theorem norw2 (p q : Int × Nat) : norw [p, q] = (norw [p] && norw [q]) := by simp [norw]
theorem none_c (N : Int) (ao : Option Addr) (n cap : Nat) (w : World) :
  Calls Tryz.prog 107 #[.agg #[.int .i64 N, .slice ao n cap]] w fun e w' => e = .returned (.bool (norw [(N, n)])) ∧ Below w.heap.size w w' := by
 rw [norw1]
 by_cases q : N = 0
 ·subst q
  by_cases r : (n : Int) = 0
  ·have d : ((n : Int) == 0) = true := by simp only [r]; rfl
   rw [decide_eq_true r]
   go_enter Tryz.func107, Tryz.ntmps107
   go_wp2
   go_ret
   exact ⟨rfl, below_alloc _ _⟩
  ·have d : ((n : Int) == 0) = false := beq_eq_false_iff_ne.2 r
   rw [decide_eq_false r]
   go_enter Tryz.func107, Tryz.ntmps107
   go_wp2
   go_ret
   exact ⟨rfl, below_alloc _ _⟩
 ·have d : (N == 0) = false := beq_eq_false_iff_ne.2 q
  rw [decide_eq_false q]
  go_enter Tryz.func107, Tryz.ntmps107
  go_wp2
  go_ret
  exact ⟨rfl, below_alloc _ _⟩
def nons (k V M : Int) (n : Nat) : Bool := decide (k = 0) && (decide (V = 0) && norw [(M, n)])
theorem nones_c (k V M : Int) (ao : Option Addr) (n cap : Nat) (w : World) :
  Calls Tryz.prog 108 #[.agg #[.int .i64 k, .int .i64 V, .int .i64 M, .slice ao n cap]] w fun e w' => e = .returned (.bool (nons k V M n)) ∧ Below w.heap.size w w' := by
 unfold nons
 by_cases q : k = 0
 ·subst q
  by_cases r : V = 0
  ·subst r
   have C := none_c M ao n cap
   generalize norw [(M, n)] = R at *
   go_enter Tryz.func108, Tryz.ntmps108
   go_wp2_with fail
   refine (C _).mono ?_
   rintro e w1 ⟨rfl, hb⟩
   have bw := (below_alloc w _).trans (hb.mono (by simp))
   go_wp2
   go_ret
   exact ⟨by cases R <;> rfl, bw⟩
  ·have d : (V == 0) = false := beq_eq_false_iff_ne.2 r
   rw [decide_eq_false r]
   go_enter Tryz.func108, Tryz.ntmps108
   go_wp2
   go_ret
   exact ⟨rfl, below_alloc _ _⟩
 ·have d : (k == 0) = false := beq_eq_false_iff_ne.2 q
  rw [decide_eq_false q]
  go_enter Tryz.func108, Tryz.ntmps108
  go_wp2
  go_ret
  exact ⟨rfl, below_alloc _ _⟩
theorem zero_c (cs : List Value) (a : RA) (w : World) (h : KI w cs a) :
  Calls Tryz.prog 56 #[.agg cs.toArray] w fun e w' => e = .returned (.bool (kZs a)) ∧ Below w.heap.size w w' := by
 obtain ⟨⟨cp, cr, cf, rfl, hK, h1, h2, h3⟩, sm⟩ := h
 have s1 := sm.p2
 have s2 := sm.p3
 have s3 := sm.r3
 have s4 := sm.r4
 clear sm
 obtain ⟨K, ⟨N, xs, S, T⟩, ⟨N8, k8, V8, M8, x8, L8, y8, S8, T8⟩, ⟨N9, M9, k9, V9, L9, x9, H9, y9⟩⟩ := a
 dsimp only at *
 obtain ⟨ao, cap, so, sc, tO, tc, rfl, -⟩ := h1
 obtain ⟨a8, e8, q8, d8, s8, f8, t8, g8, rfl, -⟩ := h2
 obtain ⟨a9, e9, q9, d9, rfl, -⟩ := h3
 dsimp only at *
 obtain ⟨Z, hZ⟩ : ∃ Z, Hid (Z = kZs ⟨K, ⟨N, xs, S, T⟩, ⟨N8, k8, V8, M8, x8, L8, y8, S8, T8⟩, ⟨N9, M9, k9, V9, L9, x9, H9, y9⟩⟩) := ⟨_, rfl⟩
 obtain ⟨A, hA⟩ : ∃ A, Hid (A = z7 ⟨N, xs, S, T⟩) := ⟨_, rfl⟩
 obtain ⟨B, hB⟩ : ∃ B, Hid (B = z8 ⟨N8, k8, V8, M8, x8, L8, y8, S8, T8⟩) := ⟨_, rfl⟩
 obtain ⟨C, hC⟩ : ∃ C, Hid (C = z9 ⟨N9, M9, k9, V9, L9, x9, H9, y9⟩) := ⟨_, rfl⟩
 have hZ2 : Hid (Z = ((decide (K = 1) || A) && ((decide (K = 2) || B) && (decide (K = 3) || C)))) := by
  show Z = _
  rw [hZ.out, hA.out, hB.out, hC.out]
  rfl
 rw [← hZ.out]
 have EA : Hid (A = (norw [(N, xs.length)] && decide ((S.length : Int) + (T.length : Int) = 0))) := by
  show A = _
  rw [hA.out]
  unfold z7
  dsimp only
  congr 1
  rw [← Bool.decide_and]
  congr 1
  simp only [eq_iff_iff]
  omega
 have EB : Hid (B = (decide (N8 = 0) && (nons k8 V8 M8 x8.length && (norw [(L8, y8.length)] && decide ((S8.length : Int) + (T8.length : Int) = 0))))) := by
  show B = _
  rw [hB.out]
  unfold z8 nons
  dsimp only
  rw [norw2, show decide ((S8.length : Int) + (T8.length : Int) = 0) = (decide ((S8.length : Int) = 0) && decide ((T8.length : Int) = 0)) by rw [← Bool.decide_and]; congr 1; simp only [eq_iff_iff]; omega]
  simp only [Bool.and_assoc]
 have EC : Hid (C = (decide (N9 = 0) && (decide (M9 = 0) && (nons k9 V9 L9 x9.length && norw [(H9, y9.length)])))) := by
  show C = _
  rw [hC.out]
  unfold z9 nons
  dsimp only
  rw [norw2]
  simp only [Bool.and_assoc]
 clear hZ hA hB hC
 have wS : IntKind.i64.wrap ((S.length : Int) + (T.length : Int)) = (S.length : Int) + (T.length : Int) := by rw [IntKind.wrap_i64]; omega
 have wS8 : IntKind.i64.wrap ((S8.length : Int) + (T8.length : Int)) = (S8.length : Int) + (T8.length : Int) := by rw [IntKind.wrap_i64]; omega
 have N1 : Hid (∀ w0 : World, Calls Tryz.prog 107 #[.agg #[.int .i64 N, .slice ao xs.length cap]] w0 fun e w' => e = .returned (.bool (norw [(N, xs.length)])) ∧ Below w0.heap.size w0 w') := fun w0 => none_c N ao xs.length cap w0
 have N2 : Hid (∀ w0 : World, Calls Tryz.prog 108 #[.agg #[.int .i64 k8, .int .i64 V8, .int .i64 M8, .slice a8 x8.length e8]] w0 fun e w' => e = .returned (.bool (nons k8 V8 M8 x8.length)) ∧ Below w0.heap.size w0 w') := fun w0 => nones_c k8 V8 M8 a8 x8.length e8 w0
 have N3 : Hid (∀ w0 : World, Calls Tryz.prog 107 #[.agg #[.int .i64 L8, .slice q8 y8.length d8]] w0 fun e w' => e = .returned (.bool (norw [(L8, y8.length)])) ∧ Below w0.heap.size w0 w') := fun w0 => none_c L8 q8 y8.length d8 w0
 have N4 : Hid (∀ w0 : World, Calls Tryz.prog 108 #[.agg #[.int .i64 k9, .int .i64 V9, .int .i64 L9, .slice a9 x9.length e9]] w0 fun e w' => e = .returned (.bool (nons k9 V9 L9 x9.length)) ∧ Below w0.heap.size w0 w') := fun w0 => nones_c k9 V9 L9 a9 x9.length e9 w0
 have N5 : Hid (∀ w0 : World, Calls Tryz.prog 107 #[.agg #[.int .i64 H9, .slice q9 y9.length d9]] w0 fun e w' => e = .returned (.bool (norw [(H9, y9.length)])) ∧ Below w0.heap.size w0 w') := fun w0 => none_c H9 q9 y9.length d9 w0
 have B0 : Cel (w.alloc (.cells ([.int .i64 K, .int .i64 N, .slice ao xs.length cap, .slice so S.length sc, .slice tO T.length tc, .int .i64 N8, .int .i64 k8, .int .i64 V8, .int .i64 M8, .slice a8 x8.length e8, .int .i64 L8, .slice q8 y8.length d8, .slice s8 S8.length f8, .slice t8 T8.length g8, .int .i64 N9, .int .i64 M9, .int .i64 k9, .int .i64 V9, .int .i64 L9, .slice a9 x9.length e9, .int .i64 H9, .slice q9 y9.length d9] : List Value).toArray 45)) w.heap.size [.int .i64 K, .int .i64 N, .slice ao xs.length cap, .slice so S.length sc, .slice tO T.length tc, .int .i64 N8, .int .i64 k8, .int .i64 V8, .int .i64 M8, .slice a8 x8.length e8, .int .i64 L8, .slice q8 y8.length d8, .slice s8 S8.length f8, .slice t8 T8.length g8, .int .i64 N9, .int .i64 M9, .int .i64 k9, .int .i64 V9, .int .i64 L9, .slice a9 x9.length e9, .int .i64 H9, .slice q9 y9.length d9] 45 := Cel.new w _ _
 have bw : Below w.heap.size w (w.alloc (.cells ([.int .i64 K, .int .i64 N, .slice ao xs.length cap, .slice so S.length sc, .slice tO T.length tc, .int .i64 N8, .int .i64 k8, .int .i64 V8, .int .i64 M8, .slice a8 x8.length e8, .int .i64 L8, .slice q8 y8.length d8, .slice s8 S8.length f8, .slice t8 T8.length g8, .int .i64 N9, .int .i64 M9, .int .i64 k9, .int .i64 V9, .int .i64 L9, .slice a9 x9.length e9, .int .i64 H9, .slice q9 y9.length d9] : List Value).toArray 45)) := below_alloc w _
 generalize hsum : (S.length : Int) + (T.length : Int) = s7 at *
 generalize hsum8 : (S8.length : Int) + (T8.length : Int) = s78 at *
 go_enter Tryz.func56, Tryz.ntmps56
 go_upto_region 1 with fail
 go_cut [3] (fun s3 wx => s3 = .bool A ∧ Cel wx w.heap.size [.int .i64 K, .int .i64 N, .slice ao xs.length cap, .slice so S.length sc, .slice tO T.length tc, .int .i64 N8, .int .i64 k8, .int .i64 V8, .int .i64 M8, .slice a8 x8.length e8, .int .i64 L8, .slice q8 y8.length d8, .slice s8 S8.length f8, .slice t8 T8.length g8, .int .i64 N9, .int .i64 M9, .int .i64 k9, .int .i64 V9, .int .i64 L9, .slice a9 x9.length e9, .int .i64 H9, .slice q9 y9.length d9] 45 ∧ Below w.heap.size w wx)
 case first =>
  have c1 := B0.cell 1 rfl
  have c2 := B0.cell 2 rfl
  have c3 := B0.cell 3 rfl
  have c4 := B0.cell 4 rfl
  cases hn : norw [(N, xs.length)] with
  | false =>
   rw [hn] at N1
   go_wp2_with fail
   refine (N1.out _).mono ?_
   rintro e w1 ⟨rfl, hb⟩
   replace B0 := B0.kept hb
   replace bw := bw.trans (hb.mono bw.size)
   clear hb c1 c2 c3 c4
   have c1 := B0.cell 1 rfl
   have c2 := B0.cell 2 rfl
   have c3 := B0.cell 3 rfl
   have c4 := B0.cell 4 rfl
   go_wp2_with fail
   go_meet
   refine ⟨?_, B0, bw⟩
   rw [EA.out]
   simp [hn]
  | true =>
   rw [hn] at N1
   by_cases q : s7 = 0
   ·have d : (s7 == 0) = true := by simp [q]
    go_wp2_with fail
    refine (N1.out _).mono ?_
    rintro e w1 ⟨rfl, hb⟩
    replace B0 := B0.kept hb
    replace bw := bw.trans (hb.mono bw.size)
    clear hb c1 c2 c3 c4
    have c1 := B0.cell 1 rfl
    have c2 := B0.cell 2 rfl
    have c3 := B0.cell 3 rfl
    have c4 := B0.cell 4 rfl
    go_wp2_with fail
    go_meet
    refine ⟨?_, B0, bw⟩
    rw [EA.out]
    simp [hn, q]
   ·have d : (s7 == 0) = false := by simp [q]
    go_wp2_with fail
    refine (N1.out _).mono ?_
    rintro e w1 ⟨rfl, hb⟩
    replace B0 := B0.kept hb
    replace bw := bw.trans (hb.mono bw.size)
    clear hb c1 c2 c3 c4
    have c1 := B0.cell 1 rfl
    have c2 := B0.cell 2 rfl
    have c3 := B0.cell 3 rfl
    have c4 := B0.cell 4 rfl
    go_wp2_with fail
    go_meet
    refine ⟨?_, B0, bw⟩
    rw [EA.out]
    simp [hn, q]
 case rest =>
 obtain ⟨rfl, B1, bw1⟩ := hcut
 clear N1 EA B0 bw wS hsum
 have B0 := B1
 have bw := bw1
 clear B1 bw1
 go_upto_region 2 with fail
 go_cut [4] (fun s4 wx => s4 = .bool B ∧ Cel wx w.heap.size [.int .i64 K, .int .i64 N, .slice ao xs.length cap, .slice so S.length sc, .slice tO T.length tc, .int .i64 N8, .int .i64 k8, .int .i64 V8, .int .i64 M8, .slice a8 x8.length e8, .int .i64 L8, .slice q8 y8.length d8, .slice s8 S8.length f8, .slice t8 T8.length g8, .int .i64 N9, .int .i64 M9, .int .i64 k9, .int .i64 V9, .int .i64 L9, .slice a9 x9.length e9, .int .i64 H9, .slice q9 y9.length d9] 45 ∧ Below w.heap.size w wx)
 case first =>
  have c5 := B0.cell 5 rfl
  have c6 := B0.cell 6 rfl
  have c7 := B0.cell 7 rfl
  have c8 := B0.cell 8 rfl
  have c9 := B0.cell 9 rfl
  have c10 := B0.cell 10 rfl
  have c11 := B0.cell 11 rfl
  have c12 := B0.cell 12 rfl
  have c13 := B0.cell 13 rfl
  by_cases q : N8 = 0
  rotate_left
  ·have d : (N8 == 0) = false := by simp [q]
   go_wp2_with fail
   go_meet
   refine ⟨?_, B0, bw⟩
   rw [EB.out]
   simp [q]
  subst q
  cases hn : nons k8 V8 M8 x8.length with
  | false =>
   rw [hn] at N2
   go_wp2_with fail
   refine (N2.out _).mono ?_
   rintro e w1 ⟨rfl, hb⟩
   replace B0 := B0.kept hb
   replace bw := bw.trans (hb.mono bw.size)
   clear hb c5 c6 c7 c8 c9 c10 c11 c12 c13
   have c5 := B0.cell 5 rfl
   have c6 := B0.cell 6 rfl
   have c7 := B0.cell 7 rfl
   have c8 := B0.cell 8 rfl
   have c9 := B0.cell 9 rfl
   have c10 := B0.cell 10 rfl
   have c11 := B0.cell 11 rfl
   have c12 := B0.cell 12 rfl
   have c13 := B0.cell 13 rfl
   go_wp2_with fail
   go_meet
   refine ⟨?_, B0, bw⟩
   rw [EB.out]
   simp [hn]
  | true =>
   rw [hn] at N2
   cases hm : norw [(L8, y8.length)] with
   | false =>
    rw [hm] at N3
    go_wp2_with fail
    refine (N2.out _).mono ?_
    rintro e w1 ⟨rfl, hb⟩
    replace B0 := B0.kept hb
    replace bw := bw.trans (hb.mono bw.size)
    clear hb c5 c6 c7 c8 c9 c10 c11 c12 c13
    have c5 := B0.cell 5 rfl
    have c6 := B0.cell 6 rfl
    have c7 := B0.cell 7 rfl
    have c8 := B0.cell 8 rfl
    have c9 := B0.cell 9 rfl
    have c10 := B0.cell 10 rfl
    have c11 := B0.cell 11 rfl
    have c12 := B0.cell 12 rfl
    have c13 := B0.cell 13 rfl
    go_wp2_with fail
    refine (N3.out _).mono ?_
    rintro e w2 ⟨rfl, hb⟩
    replace B0 := B0.kept hb
    replace bw := bw.trans (hb.mono bw.size)
    clear hb c5 c6 c7 c8 c9 c10 c11 c12 c13
    have c5 := B0.cell 5 rfl
    have c6 := B0.cell 6 rfl
    have c7 := B0.cell 7 rfl
    have c8 := B0.cell 8 rfl
    have c9 := B0.cell 9 rfl
    have c10 := B0.cell 10 rfl
    have c11 := B0.cell 11 rfl
    have c12 := B0.cell 12 rfl
    have c13 := B0.cell 13 rfl
    go_wp2_with fail
    go_meet
    refine ⟨?_, B0, bw⟩
    rw [EB.out]
    simp [hn, hm]
   | true =>
    rw [hm] at N3
    by_cases q : s78 = 0
    ·have d : (s78 == 0) = true := by simp [q]
     go_wp2_with fail
     refine (N2.out _).mono ?_
     rintro e w1 ⟨rfl, hb⟩
     replace B0 := B0.kept hb
     replace bw := bw.trans (hb.mono bw.size)
     clear hb c5 c6 c7 c8 c9 c10 c11 c12 c13
     have c5 := B0.cell 5 rfl
     have c6 := B0.cell 6 rfl
     have c7 := B0.cell 7 rfl
     have c8 := B0.cell 8 rfl
     have c9 := B0.cell 9 rfl
     have c10 := B0.cell 10 rfl
     have c11 := B0.cell 11 rfl
     have c12 := B0.cell 12 rfl
     have c13 := B0.cell 13 rfl
     go_wp2_with fail
     refine (N3.out _).mono ?_
     rintro e w2 ⟨rfl, hb⟩
     replace B0 := B0.kept hb
     replace bw := bw.trans (hb.mono bw.size)
     clear hb c5 c6 c7 c8 c9 c10 c11 c12 c13
     have c5 := B0.cell 5 rfl
     have c6 := B0.cell 6 rfl
     have c7 := B0.cell 7 rfl
     have c8 := B0.cell 8 rfl
     have c9 := B0.cell 9 rfl
     have c10 := B0.cell 10 rfl
     have c11 := B0.cell 11 rfl
     have c12 := B0.cell 12 rfl
     have c13 := B0.cell 13 rfl
     go_wp2_with fail
     go_meet
     refine ⟨?_, B0, bw⟩
     rw [EB.out]
     simp [hn, hm, q]
    ·have d : (s78 == 0) = false := by simp [q]
     go_wp2_with fail
     refine (N2.out _).mono ?_
     rintro e w1 ⟨rfl, hb⟩
     replace B0 := B0.kept hb
     replace bw := bw.trans (hb.mono bw.size)
     clear hb c5 c6 c7 c8 c9 c10 c11 c12 c13
     have c5 := B0.cell 5 rfl
     have c6 := B0.cell 6 rfl
     have c7 := B0.cell 7 rfl
     have c8 := B0.cell 8 rfl
     have c9 := B0.cell 9 rfl
     have c10 := B0.cell 10 rfl
     have c11 := B0.cell 11 rfl
     have c12 := B0.cell 12 rfl
     have c13 := B0.cell 13 rfl
     go_wp2_with fail
     refine (N3.out _).mono ?_
     rintro e w2 ⟨rfl, hb⟩
     replace B0 := B0.kept hb
     replace bw := bw.trans (hb.mono bw.size)
     clear hb c5 c6 c7 c8 c9 c10 c11 c12 c13
     have c5 := B0.cell 5 rfl
     have c6 := B0.cell 6 rfl
     have c7 := B0.cell 7 rfl
     have c8 := B0.cell 8 rfl
     have c9 := B0.cell 9 rfl
     have c10 := B0.cell 10 rfl
     have c11 := B0.cell 11 rfl
     have c12 := B0.cell 12 rfl
     have c13 := B0.cell 13 rfl
     go_wp2_with fail
     go_meet
     refine ⟨?_, B0, bw⟩
     rw [EB.out]
     simp [hn, hm, q]
 case rest =>
 obtain ⟨rfl, B1, bw1⟩ := hcut
 clear N2 N3 EB B0 bw wS8 hsum8
 have B0 := B1
 have bw := bw1
 clear B1 bw1
 go_upto_region 3 with fail
 go_cut [5] (fun s5 wx => s5 = .bool C ∧ Cel wx w.heap.size [.int .i64 K, .int .i64 N, .slice ao xs.length cap, .slice so S.length sc, .slice tO T.length tc, .int .i64 N8, .int .i64 k8, .int .i64 V8, .int .i64 M8, .slice a8 x8.length e8, .int .i64 L8, .slice q8 y8.length d8, .slice s8 S8.length f8, .slice t8 T8.length g8, .int .i64 N9, .int .i64 M9, .int .i64 k9, .int .i64 V9, .int .i64 L9, .slice a9 x9.length e9, .int .i64 H9, .slice q9 y9.length d9] 45 ∧ Below w.heap.size w wx)
 case first =>
  have c14 := B0.cell 14 rfl
  have c15 := B0.cell 15 rfl
  have c16 := B0.cell 16 rfl
  have c17 := B0.cell 17 rfl
  have c18 := B0.cell 18 rfl
  have c19 := B0.cell 19 rfl
  have c20 := B0.cell 20 rfl
  have c21 := B0.cell 21 rfl
  by_cases q : N9 = 0
  rotate_left
  ·have d : (N9 == 0) = false := by simp [q]
   go_wp2_with fail
   go_meet
   refine ⟨?_, B0, bw⟩
   rw [EC.out]
   simp [q]
  subst q
  by_cases q : M9 = 0
  rotate_left
  ·have d : (M9 == 0) = false := by simp [q]
   go_wp2_with fail
   go_meet
   refine ⟨?_, B0, bw⟩
   rw [EC.out]
   simp [q]
  subst q
  cases hn : nons k9 V9 L9 x9.length with
  | false =>
   rw [hn] at N4
   go_wp2_with fail
   refine (N4.out _).mono ?_
   rintro e w1 ⟨rfl, hb⟩
   replace B0 := B0.kept hb
   replace bw := bw.trans (hb.mono bw.size)
   clear hb c14 c15 c16 c17 c18 c19 c20 c21
   have c14 := B0.cell 14 rfl
   have c15 := B0.cell 15 rfl
   have c16 := B0.cell 16 rfl
   have c17 := B0.cell 17 rfl
   have c18 := B0.cell 18 rfl
   have c19 := B0.cell 19 rfl
   have c20 := B0.cell 20 rfl
   have c21 := B0.cell 21 rfl
   go_wp2_with fail
   go_meet
   refine ⟨?_, B0, bw⟩
   rw [EC.out]
   simp [hn]
  | true =>
   rw [hn] at N4
   go_wp2_with fail
   refine (N4.out _).mono ?_
   rintro e w1 ⟨rfl, hb⟩
   replace B0 := B0.kept hb
   replace bw := bw.trans (hb.mono bw.size)
   clear hb c14 c15 c16 c17 c18 c19 c20 c21
   have c14 := B0.cell 14 rfl
   have c15 := B0.cell 15 rfl
   have c16 := B0.cell 16 rfl
   have c17 := B0.cell 17 rfl
   have c18 := B0.cell 18 rfl
   have c19 := B0.cell 19 rfl
   have c20 := B0.cell 20 rfl
   have c21 := B0.cell 21 rfl
   go_wp2_with fail
   refine (N5.out _).mono ?_
   rintro e w2 ⟨rfl, hb⟩
   replace B0 := B0.kept hb
   replace bw := bw.trans (hb.mono bw.size)
   clear hb c14 c15 c16 c17 c18 c19 c20 c21
   have c14 := B0.cell 14 rfl
   have c15 := B0.cell 15 rfl
   have c16 := B0.cell 16 rfl
   have c17 := B0.cell 17 rfl
   have c18 := B0.cell 18 rfl
   have c19 := B0.cell 19 rfl
   have c20 := B0.cell 20 rfl
   have c21 := B0.cell 21 rfl
   generalize norw [(H9, y9.length)] = R at *
   go_wp2_with fail
   go_meet
   refine ⟨?_, B0, bw⟩
   rw [EC.out]
   simp [hn]
 case rest =>
 obtain ⟨rfl, B1, bw1⟩ := hcut
 clear N4 N5 EC B0 bw
 have c0 := B1.cell 0 rfl
 by_cases q1 : K = 1
 ·subst q1
  cases A <;> cases B <;> cases C <;> (go_wp2; go_ret; rw [hZ2.out]; exact ⟨rfl, bw1⟩)
 by_cases q2 : K = 2
 ·subst q2
  cases A <;> cases B <;> cases C <;> (go_wp2; go_ret; rw [hZ2.out]; exact ⟨rfl, bw1⟩)
 by_cases q3 : K = 3
 ·subst q3
  cases A <;> cases B <;> cases C <;> (go_wp2; go_ret; rw [hZ2.out]; exact ⟨rfl, bw1⟩)
 have d1 : (K == 1) = false := by simp [q1]
 have d2 : (K == 2) = false := by simp [q2]
 have d3 : (K == 3) = false := by simp [q3]
 rw [decide_eq_false q1, decide_eq_false q2, decide_eq_false q3] at hZ2
 cases A <;> cases B <;> cases C <;> (go_wp2; go_ret; rw [hZ2.out]; exact ⟨rfl, bw1⟩)
theorem p7whole_k (cs : List Value) (a : RA7) (w : World) (h : KI7 w cs a) :
  Calls Tryz.prog 57 #[.agg cs.toArray] w fun e w' => ∃ bo bc, e = .returned (.tuple #[.agg #[.int .i64 (kBN7 a), .slice bo (kBX7 a).length bc], .bool (kOk7 a)]) ∧ Wd w' bo (kBX7 a) ∧ (kBX7 a).length ≤ bc ∧ Below w.heap.size w w' := by
 obtain ⟨⟨ao, cap, so, sc, tO, tc, rfl, h⟩, xl, sl, tl⟩ := h
 refine (rwhole_c a.N ao a.xs cap so a.S sc tO a.T tc w h.x h.f h.c h.s sl h.t tl).mono ?_
 rintro e w' ⟨rfl, hb⟩
 exact ⟨_, _, rfl, (pi_wd a.N a.S a.T h.x).keep hb, pi_cap a.N a.xs a.S a.T cap h.c, hb⟩
def ROut (o : Option (List Nat)) (w : World) (e : Ending) (w' : World) : Prop :=
 match o with
 | none => e = .returned (.tuple #[.slice none 0 0, .bool false]) ∧ Below w.heap.size w w'
 | some l => ∃ so sc, e = .returned (.tuple #[.slice so l.length sc, .bool true]) ∧ Nd w' so (lz l) ∧ l.length ≤ sc ∧ Below w.heap.size w w'
theorem fRow_bad (a : FA) (h : ¬ ((0 ≤ a.N ∧ a.N ≤ 1048576 ∧ 0 ≤ a.M ∧ a.M ≤ a.N) ∧ ichk a.k a.V a.LM a.xs = true ∧ chk a.H a.ys = true ∧ ((plc (bitAt a.ys) a.H.toNat).length : Int) = a.M ∧ (wdF a.N.toNat a.M.toNat = 0 ∨ (((List.range a.k.toNat).map (numAt a.V.toNat a.xs)).length : Int) = a.M))) : fRow a = none := by
 unfold fRow
 exact if_neg h
theorem row9_bad (N M k V LM H : Int) (ao : Option Addr) (xs : List Nat) (cap : Nat) (qo : Option Addr) (ys : List Nat) (dap : Nat) (w : World) (hx : Wd w ao xs) (fx : Fit xs) (hy : Wd w qo ys) (fy : Fit ys) (h : ¬ ((0 ≤ N ∧ N ≤ 1048576 ∧ 0 ≤ M ∧ M ≤ N) ∧ ichk k V LM xs = true ∧ chk H ys = true)) :
  Calls Tryz.prog 113 #[.agg #[.int .i64 N, .int .i64 M, .int .i64 k, .int .i64 V, .int .i64 LM, .slice ao xs.length cap, .int .i64 H, .slice qo ys.length dap]] w (ROut none w) := by
 unfold ROut
 have C1 : Hid (∀ w0, Below w.heap.size w w0 → Calls Tryz.prog 110 #[.agg #[.int .i64 k, .int .i64 V, .int .i64 LM, .slice ao xs.length cap]] w0 fun e w' => e = .returned (.bool (ichk k V LM xs)) ∧ Below w0.heap.size w0 w') := fun w0 hb => irefcheck_c k V LM ao xs cap w0 (hx.keep hb) fx
 have C2 : Hid (∀ w0, Below w.heap.size w w0 → Calls Tryz.prog 30 #[.agg #[.int .i64 H, .slice qo ys.length dap]] w0 fun e w' => e = .returned (.bool (chk H ys)) ∧ Below w0.heap.size w0 w') := fun w0 hb => refcheck_c H qo ys dap w0 (hy.keep hb) fy
 obtain ⟨W, hW⟩ : ∃ W, W = w.alloc (.cells #[.int .i64 N, .int .i64 M, .int .i64 k, .int .i64 V, .int .i64 LM, .slice ao xs.length cap, .int .i64 H, .slice qo ys.length dap] 43) := ⟨_, rfl⟩
 have bW := yb1 hW
 have B1 := yc1 hW
 clear hx hy fx fy
 by_cases n0 : N < 0
 ·clear C1 C2 h
  go_enter Tryz.func113, Tryz.ntmps113
  go_wp2
  go_ret2
  rw [← hW]
  exact ⟨rfl, bW⟩
 by_cases n1 : 1048576 < N
 ·clear C1 C2 h
  go_enter Tryz.func113, Tryz.ntmps113
  go_wp2
  go_ret2
  rw [← hW]
  exact ⟨rfl, bW⟩
 by_cases m0 : M < 0
 ·clear C1 C2 h
  go_enter Tryz.func113, Tryz.ntmps113
  go_wp2
  go_ret2
  rw [← hW]
  exact ⟨rfl, bW⟩
 by_cases m1 : N < M
 ·clear C1 C2 h
  go_enter Tryz.func113, Tryz.ntmps113
  go_wp2
  go_ret2
  rw [← hW]
  exact ⟨rfl, bW⟩
 cases hk : ichk k V LM xs with
 | false =>
  rw [hk] at C1
  clear C2 h hk
  go_enter Tryz.func113, Tryz.ntmps113
  go_wp2_with fail
  rw [← hW]
  refine (C1.out _ bW).mono ?_
  rintro e w1 ⟨rfl, hb⟩
  have bw1 := bW.trans (hb.mono bW.size)
  clear hW hb
  go_wp2
  go_ret2
  exact ⟨rfl, bw1⟩
 | true =>
  have hc : chk H ys = false := by
   cases hc : chk H ys with
   | false => rfl
   | true => exact absurd ⟨by omega, hk, hc⟩ h
  rw [hk] at C1
  rw [hc] at C2
  clear h hk hc
  go_enter Tryz.func113, Tryz.ntmps113
  go_wp2_with fail
  rw [← hW]
  refine (C1.out _ bW).mono ?_
  rintro e w1 ⟨rfl, hb⟩
  have bw1 := bW.trans (hb.mono bW.size)
  replace B1 := B1.kept hb
  have q6 := B1.cell 6 rfl
  have q7 := B1.cell 7 rfl
  clear hW hb
  go_wp2_with fail
  refine (C2.out _ bw1).mono ?_
  rintro e w2 ⟨rfl, hb⟩
  have bw2 := bw1.trans (hb.mono bw1.size)
  clear hb
  go_wp2
  go_ret2
  exact ⟨rfl, bw2⟩
end Go.Proofs.YtjahipjghenbjaaGreatDoor
