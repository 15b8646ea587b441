/-
  The contract of the document's Build of layer 9. The contract of the document's Whole. The contracts of the document's Check, Bits, Access, Rank and Select, over that of its Whole. The contracts of the document's Check, Bits, Access, Rank, Select, Size and Same, over objects.
-/
import Derived.Test.YtjahipjghenbjaaGreatDoorL42
import Derived.Test.YtjahipjghenbjaaGreatDoorL41
import Derived.Test.YtjahipjghenbjaaGreatDoorL23
import Derived.Test.YtjahipjghenbjaaGreatDoorL38
import Derived.Test.YtjahipjghenbjaaGreatDoorL10
import Derived.Test.YtjahipjghenbjaaGreatDoorL08
import Derived.Test.YtjahipjghenbjaaGreatDoorL02
import Derived.Test.YtjahipjghenbjaaGreatDoorL12
set_option linter.unusedVariables false
set_option linter.unusedSimpArgs false
set_option maxRecDepth 100000
set_option maxHeartbeats 16000000
namespace Go.Proofs.YtjahipjghenbjaaGreatDoor
open Go.RowKit Num Bit
theorem v10whole_k (cs : List Value) (a : RA) (w : World) (h : KI w cs a) :
  Calls Tryz.prog 29 #[.agg cs.toArray] w fun e w' => ∃ bo bc, e = .returned (.tuple #[.agg #[.int .i64 (kBN a), .slice bo (kBX a).length bc], .bool (kOk a)]) ∧ Wd w' bo (kBX a) ∧ (kBX a).length ≤ bc ∧ Below w.heap.size w w' := by
 have ZE0 := fun (w0 : World) (hb : Below w.heap.size w w0) => zero_c cs a w0 (h.keep hb)
 have HL := Hid.mk8 h.arg.len
 have sm := h.sm
 replace h := h.arg
 obtain ⟨cp, cr, cf, rfl, hK, h1, h2, h3⟩ := h
 have l4 := Hid.mk8 h1.four
 have l9 := Hid.mk8 h2.nine
 have LP := Hid.mk8 h1.len
 have LR := Hid.mk8 h2.len
 have LF := Hid.mk8 h3.len
 obtain ⟨K, p, r, f⟩ := a
 dsimp only at *
 have k7 : KI7 w cp p := ⟨h1, sm.p1, sm.p2, sm.p3⟩
 have k8 : KI8 w cr r := ⟨h2, sm.r1, sm.r2, sm.r3, sm.r4⟩
 have k9 : KI9 w cf f := ⟨h3, sm.f0, sm.f1, sm.f2⟩
 have ZE : Hid (∀ w0, Below w.heap.size w w0 → Calls Tryz.prog 56 #[.agg (Value.int .i64 K :: (cp ++ (cr ++ cf))).toArray] w0 fun e w' => e = .returned (.bool (kZs ⟨K, p, r, f⟩)) ∧ Below w0.heap.size w0 w') := ZE0
 clear ZE0 h1 h2 h3 sm
 have bw : Below w.heap.size w ((w.alloc (.cells (Value.int .i64 K :: (cp ++ (cr ++ cf))).toArray 45)).alloc (.cells #[.int .i64 0, .slice none 0 0] 33)) := (below_alloc w _).alloc (by simp) _
 have B0 : Cel ((w.alloc (.cells (Value.int .i64 K :: (cp ++ (cr ++ cf))).toArray 45)).alloc (.cells #[.int .i64 0, .slice none 0 0] 33)) w.heap.size (Value.int .i64 K :: (cp ++ (cr ++ cf))) 45 := (Cel.new w _ _).alloc _
 have B2 : Cel ((w.alloc (.cells (Value.int .i64 K :: (cp ++ (cr ++ cf))).toArray 45)).alloc (.cells #[.int .i64 0, .slice none 0 0] 33)) (w.heap.size + 1) [.int .i64 0, .slice none 0 0] 33 := Cel.new2 w _ _ _
 cases hz : kZs ⟨K, p, r, f⟩ with
 | false =>
  have o : kOn ⟨K, p, r, f⟩ = 0 := by unfold kOn; rw [hz]; rfl
  obtain ⟨e1, e2, e3, e4⟩ := on_n (a := ⟨K, p, r, f⟩) (by omega) (by omega) (by omega)
  rw [e1, e2, e3]
  rw [hz] at ZE
  clear e1 e2 e3 e4 o hz k7 k8 k9
  go_enter Tryz.func29, Tryz.ntmps29
  go_wp2_with (refine load_obj w.heap.size _ (by rfl) rfl B0 Tryz.underlying45 HL.out ?_)
  refine (ZE.out _ bw).mono ?_
  rintro e w1 ⟨rfl, hb⟩
  replace B0 := B0.kept hb
  replace B2 := B2.kept hb
  replace bw := bw.trans (hb.mono bw.size)
  clear hb
  obtain ⟨c0, p1, p2, p3⟩ := parts l4.out l9.out B0
  go_wp2_with (refine store_cel (w.heap.size + 1) _ [.int .i64 0, .slice none 0 0] rfl rfl B2 rfl info_bv (by simp [Value.oneCell']) ?_)
  intro w3 B3 O3
  have HZ : Hid (Cel w3 (w.heap.size + 1) [.int .i64 0, .slice none 0 0] 33 ∧ Below w.heap.size w w3) := ⟨B3, bw.trans (O3.below (Nat.le_succ _))⟩
  clear B3 O3 B2 B0 c0 p1 p2 p3
  go_wp2
  (try simp only [Exit.inBlock, Exit.then])
  exact bodyPost_ret (result_cel rfl (w.heap.size + 1) _ rfl HZ.out.1 Tryz.underlying33 info_bv) rfl ⟨none, 0, rfl, wd0' _ _, Nat.le_refl _, HZ.out.2⟩
 | true =>
  have o : kOn ⟨K, p, r, f⟩ = K := by unfold kOn; rw [hz]; rfl
  rw [hz] at ZE
  clear hz
  by_cases q7 : K = 1
  ·subst q7
   obtain ⟨e1, e2, e3, e4⟩ := on_p o
   rw [e1, e2, e3]
   have C : Hid (∀ w0, Below w.heap.size w w0 → Calls Tryz.prog 57 #[.agg cp.toArray] w0 fun e w' => ∃ bo bc, e = .returned (.tuple #[.agg #[.int .i64 (kBN7 p), .slice bo (kBX7 p).length bc], .bool (kOk7 p)]) ∧ Wd w' bo (kBX7 p) ∧ (kBX7 p).length ≤ bc ∧ Below w0.heap.size w0 w') := fun w0 g => p7whole_k cp p w0 (k7.keep g)
   clear e1 e2 e3 e4 k7 k8 k9 o
   generalize kBN7 p = N at *
   generalize kBX7 p = X at *
   generalize kOk7 p = ok at *
   go_enter Tryz.func29, Tryz.ntmps29
   go_wp2_with (refine load_obj w.heap.size _ (by rfl) rfl B0 Tryz.underlying45 HL.out ?_)
   refine (ZE.out _ bw).mono ?_
   rintro e w1 ⟨rfl, hb⟩
   replace B0 := B0.kept hb
   replace B2 := B2.kept hb
   replace bw := bw.trans (hb.mono bw.size)
   clear hb
   obtain ⟨c0, p1, p2, p3⟩ := parts l4.out l9.out B0
   go_wp2_with (refine load_part w.heap.size 1 cp (by rfl) rfl p1 Tryz.underlying37 LP.out ?_)
   refine (C.out _ bw).mono ?_
   rintro e w2 ⟨bo, bc, rfl, hx, hbc, hb⟩
   replace bw := bw.trans (hb.mono bw.size)
   replace B2 := B2.kept hb
   clear hb C ZE B0 c0 p1 p2 p3
   have hne := hx.apart B2 (by intro v hv n; simp at hv; rcases hv with rfl | rfl <;> simp)
   go_wp2_with (refine store_cel (w.heap.size + 1) _ [.int .i64 N, .slice bo X.length bc] rfl rfl B2 rfl info_bv (by simp [Value.oneCell']) ?_)
   intro w3 B3 O3
   have HZ : Hid (Cel w3 (w.heap.size + 1) [.int .i64 N, .slice bo X.length bc] 33 ∧ Wd w3 bo X ∧ Below w.heap.size w w3) := ⟨B3, O3.wd hx hne, bw.trans (O3.below (Nat.le_succ _))⟩
   clear B3 O3 B2 hx hne
   go_wp2
   (try simp only [Exit.inBlock, Exit.then])
   exact bodyPost_ret (result_cel rfl (w.heap.size + 1) _ rfl HZ.out.1 Tryz.underlying33 info_bv) rfl ⟨bo, bc, rfl, HZ.out.2.1, hbc, HZ.out.2.2⟩
  by_cases q8 : K = 2
  ·subst q8
   obtain ⟨e1, e2, e3, e4⟩ := on_r o
   rw [e1, e2, e3]
   have C : Hid (∀ w0, Below w.heap.size w w0 → Calls Tryz.prog 58 #[.agg cr.toArray] w0 fun e w' => ∃ bo bc, e = .returned (.tuple #[.agg #[.int .i64 (kBN8 r), .slice bo (kBX8 r).length bc], .bool (kOk8 r)]) ∧ Wd w' bo (kBX8 r) ∧ (kBX8 r).length ≤ bc ∧ Below w0.heap.size w0 w') := fun w0 g => r8whole_k cr r w0 (k8.keep g)
   clear e1 e2 e3 e4 k7 k8 k9 o
   generalize kBN8 r = N at *
   generalize kBX8 r = X at *
   generalize kOk8 r = ok at *
   go_enter Tryz.func29, Tryz.ntmps29
   go_wp2_with (refine load_obj w.heap.size _ (by rfl) rfl B0 Tryz.underlying45 HL.out ?_)
   refine (ZE.out _ bw).mono ?_
   rintro e w1 ⟨rfl, hb⟩
   replace B0 := B0.kept hb
   replace B2 := B2.kept hb
   replace bw := bw.trans (hb.mono bw.size)
   clear hb
   obtain ⟨c0, p1, p2, p3⟩ := parts l4.out l9.out B0
   go_wp2_with (refine load_part w.heap.size 5 cr (by rfl) rfl p2 Tryz.underlying41 LR.out ?_)
   refine (C.out _ bw).mono ?_
   rintro e w2 ⟨bo, bc, rfl, hx, hbc, hb⟩
   replace bw := bw.trans (hb.mono bw.size)
   replace B2 := B2.kept hb
   clear hb C ZE B0 c0 p1 p2 p3
   have hne := hx.apart B2 (by intro v hv n; simp at hv; rcases hv with rfl | rfl <;> simp)
   go_wp2_with (refine store_cel (w.heap.size + 1) _ [.int .i64 N, .slice bo X.length bc] rfl rfl B2 rfl info_bv (by simp [Value.oneCell']) ?_)
   intro w3 B3 O3
   have HZ : Hid (Cel w3 (w.heap.size + 1) [.int .i64 N, .slice bo X.length bc] 33 ∧ Wd w3 bo X ∧ Below w.heap.size w w3) := ⟨B3, O3.wd hx hne, bw.trans (O3.below (Nat.le_succ _))⟩
   clear B3 O3 B2 hx hne
   go_wp2
   (try simp only [Exit.inBlock, Exit.then])
   exact bodyPost_ret (result_cel rfl (w.heap.size + 1) _ rfl HZ.out.1 Tryz.underlying33 info_bv) rfl ⟨bo, bc, rfl, HZ.out.2.1, hbc, HZ.out.2.2⟩
  by_cases q9 : K = 3
  ·subst q9
   obtain ⟨e1, e2, e3, e4⟩ := on_f o
   rw [e1, e2, e3]
   have C : Hid (∀ w0, Below w.heap.size w w0 → Calls Tryz.prog 59 #[.agg cf.toArray] w0 fun e w' => ∃ bo bc, e = .returned (.tuple #[.agg #[.int .i64 (kBN9 f), .slice bo (kBX9 f).length bc], .bool (kOk9 f)]) ∧ Wd w' bo (kBX9 f) ∧ (kBX9 f).length ≤ bc ∧ Below w0.heap.size w0 w') := fun w0 g => f9whole_k cf f w0 (k9.keep g)
   clear e1 e2 e3 e4 k7 k8 k9 o
   generalize kBN9 f = N at *
   generalize kBX9 f = X at *
   generalize kOk9 f = ok at *
   go_enter Tryz.func29, Tryz.ntmps29
   go_wp2_with (refine load_obj w.heap.size _ (by rfl) rfl B0 Tryz.underlying45 HL.out ?_)
   refine (ZE.out _ bw).mono ?_
   rintro e w1 ⟨rfl, hb⟩
   replace B0 := B0.kept hb
   replace B2 := B2.kept hb
   replace bw := bw.trans (hb.mono bw.size)
   clear hb
   obtain ⟨c0, p1, p2, p3⟩ := parts l4.out l9.out B0
   go_wp2_with (refine load_part w.heap.size 14 cf (by rfl) rfl p3 Tryz.underlying43 LF.out ?_)
   refine (C.out _ bw).mono ?_
   rintro e w2 ⟨bo, bc, rfl, hx, hbc, hb⟩
   replace bw := bw.trans (hb.mono bw.size)
   replace B2 := B2.kept hb
   clear hb C ZE B0 c0 p1 p2 p3
   have hne := hx.apart B2 (by intro v hv n; simp at hv; rcases hv with rfl | rfl <;> simp)
   go_wp2_with (refine store_cel (w.heap.size + 1) _ [.int .i64 N, .slice bo X.length bc] rfl rfl B2 rfl info_bv (by simp [Value.oneCell']) ?_)
   intro w3 B3 O3
   have HZ : Hid (Cel w3 (w.heap.size + 1) [.int .i64 N, .slice bo X.length bc] 33 ∧ Wd w3 bo X ∧ Below w.heap.size w w3) := ⟨B3, O3.wd hx hne, bw.trans (O3.below (Nat.le_succ _))⟩
   clear B3 O3 B2 hx hne
   go_wp2
   (try simp only [Exit.inBlock, Exit.then])
   exact bodyPost_ret (result_cel rfl (w.heap.size + 1) _ rfl HZ.out.1 Tryz.underlying33 info_bv) rfl ⟨bo, bc, rfl, HZ.out.2.1, hbc, HZ.out.2.2⟩
  obtain ⟨e1, e2, e3, e4⟩ := on_n (a := ⟨K, p, r, f⟩) (by rw [o]; exact q7) (by rw [o]; exact q8) (by rw [o]; exact q9)
  rw [e1, e2, e3]
  have d7 : (K == 1) = false := by simp [q7]
  have d8 : (K == 2) = false := by simp [q8]
  have d9 : (K == 3) = false := by simp [q9]
  clear e1 e2 e3 e4 o k7 k8 k9
  go_enter Tryz.func29, Tryz.ntmps29
  go_wp2_with (refine load_obj w.heap.size _ (by rfl) rfl B0 Tryz.underlying45 HL.out ?_)
  refine (ZE.out _ bw).mono ?_
  rintro e w1 ⟨rfl, hb⟩
  replace B0 := B0.kept hb
  replace B2 := B2.kept hb
  replace bw := bw.trans (hb.mono bw.size)
  clear hb
  obtain ⟨c0, p1, p2, p3⟩ := parts l4.out l9.out B0
  go_wp2_with (refine store_cel (w.heap.size + 1) _ [.int .i64 0, .slice none 0 0] rfl rfl B2 rfl info_bv (by simp [Value.oneCell']) ?_)
  intro w3 B3 O3
  have HZ : Hid (Cel w3 (w.heap.size + 1) [.int .i64 0, .slice none 0 0] 33 ∧ Below w.heap.size w w3) := ⟨B3, bw.trans (O3.below (Nat.le_succ _))⟩
  clear B3 O3 B2 B0 c0 p1 p2 p3
  go_wp2
  (try simp only [Exit.inBlock, Exit.then])
  exact bodyPost_ret (result_cel rfl (w.heap.size + 1) _ rfl HZ.out.1 Tryz.underlying33 info_bv) rfl ⟨none, 0, rfl, wd0' _ _, Nat.le_refl _, HZ.out.2⟩
theorem v10info_b : (Tryz.prog.info? 33).map (·.size) = some 2 := by kernel_rfl
theorem v10bits_g (cs : List Value) (IL : Hid ((Tryz.prog.info? 45).map (·.size) = some cs.length)) (ok : Bool) (N : Int) (X : List Nat) (w : World) (hf : Fit X) (hck : ok = true → chk N X = true) (C1 : Hid (∀ w0, Below w.heap.size w w0 → Calls Tryz.prog 29 #[.agg cs.toArray] w0 fun e w' => ∃ bo bc, e = .returned (.tuple #[.agg #[.int .i64 N, .slice bo X.length bc], .bool ok]) ∧ Wd w' bo X ∧ X.length ≤ bc ∧ Below w0.heap.size w0 w')) :
  Calls Tryz.prog 10 #[.agg cs.toArray] w fun e w' => ∃ bo bc, e = .returned (.agg #[.int .i64 N, .slice bo X.length bc]) ∧ Wd w' bo X ∧ X.length ≤ bc ∧ Below w.heap.size w w' := by
 have bW : Below w.heap.size w ((w.alloc (.cells cs.toArray 45)).alloc (.cells #[.int .i64 0, .slice none 0 0] 33)) := (below_alloc w _).alloc (by simp) _
 have BX : Cel ((w.alloc (.cells cs.toArray 45)).alloc (.cells #[.int .i64 0, .slice none 0 0] 33)) w.heap.size cs 45 := (Cel.new w cs 45).alloc _
 have B2 : Cel ((w.alloc (.cells cs.toArray 45)).alloc (.cells #[.int .i64 0, .slice none 0 0] 33)) (w.heap.size + 1) [.int .i64 0, .slice none 0 0] 33 := Cel.new2 w _ _ _
 go_enter Tryz.func10, Tryz.ntmps10
 go_wp2_with (refine load_obj w.heap.size cs (by rfl) rfl BX Tryz.underlying45 IL.out ?_)
 refine (C1.out _ bW).mono ?_
 rintro e w1 ⟨bo, bc, rfl, hx, hbc, hb⟩
 have bw1 := bW.trans (hb.mono bW.size)
 have z2 : w.heap.size + 1 < w1.heap.size := Nat.lt_of_lt_of_le B2.lt hb.size
 replace B2 := B2.kept hb
 have bA := below_alloc w1 (.cells #[.int .i64 N, .slice bo X.length bc] 33)
 replace B2 := B2.kept bA
 have hx2 := hx.keep bA
 have bw2 := bw1.trans (bA.mono bw1.size)
 have D1 := Cel.new w1 [.int .i64 N, .slice bo X.length bc] 33
 have hne := hx2.apart B2 (by intro v hv n; simp at hv; rcases hv with rfl | rfl <;> simp)
 go_wp2_with (first | refine load_cel w1.heap.size _ rfl D1 Tryz.underlying33 v10info_b ?_ | refine store_cel (w.heap.size + 1) _ _ rfl rfl B2 rfl v10info_b (by simp [Value.oneCell']) ?_)
 intro w3 B3 O3
 have HZ : Hid (Cel w3 (w.heap.size + 1) [.int .i64 N, .slice bo X.length bc] 33 ∧ Wd w3 bo X ∧ Below w.heap.size w w3) := ⟨B3, O3.wd hx2 hne, bw2.trans (O3.below (Nat.le_succ _))⟩
 clear B3 O3 hx hx2 hb B2 D1 BX
 go_wp2
 (try simp only [Exit.inBlock, Exit.then])
 exact bodyPost_ret (result_cel1 rfl (w.heap.size + 1) _ rfl HZ.out.1 Tryz.underlying33 v10info_b) rfl ⟨bo, bc, rfl, HZ.out.2.1, hbc, HZ.out.2.2⟩
theorem KI.fit {w : World} {cs : List Value} {a : RA} (h : KI w cs a) : Fit (kBX a) := by
 by_cases h1 : kOn a = 1
 ·rw [(on_p h1).2.2.1]
  obtain ⟨⟨cp, cr, cf, _, _, ⟨ao, cap, so, sc, tO, tc, _, h⟩, _⟩, _⟩ := h
  exact pi_fit a.p.N a.p.xs a.p.S a.p.T h.f
 by_cases h2 : kOn a = 2
 ·rw [(on_r h2).2.2.1]
  exact kB_fit8 _
 by_cases h3 : kOn a = 3
 ·rw [(on_f h3).2.2.1]
  exact kB_fit9 _
 rw [(on_n h1 h2 h3).2.2.1]
 exact fit_nil
theorem v10bits_k (cs : List Value) (a : RA) (w : World) (h : KI w cs a) :
  Calls Tryz.prog 10 #[.agg cs.toArray] w fun e w' => ∃ bo bc, e = .returned (.agg #[.int .i64 (kBN a), .slice bo (kBX a).length bc]) ∧ Wd w' bo (kBX a) ∧ (kBX a).length ≤ bc ∧ Below w.heap.size w w' :=
 v10bits_g cs (Hid.mk8 h.arg.len) (kOk a) (kBN a) (kBX a) w h.fit (kB_chk a) (fun w0 hb => v10whole_k cs a w0 (h.keep hb))
end Go.Proofs.YtjahipjghenbjaaGreatDoor
