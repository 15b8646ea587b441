/-
  The contract of the document's Whole. The contracts of the document's Check, Bits, Access, Rank and Select, over that of its Whole. The contracts of the document's Check, Bits, Access, Rank, Select, Size and Same, over objects. What the row says of the two tables: they lie where the program lays them.
-/
import Derived.Test.YtfnkklkdajlhlaaGreatDoorL26
import Derived.Test.YtfnkklkdajlhlaaGreatDoorL13
import Derived.Test.YtfnkklkdajlhlaaGreatDoorL24
import Derived.Test.YtfnkklkdajlhlaaGreatDoorL06
import Derived.Test.YtfnkklkdajlhlaaGreatDoorL05
import Derived.Test.YtfnkklkdajlhlaaGreatDoorL01
import Derived.Test.YtfnkklkdajlhlaaGreatDoorL07
import Derived.Test.YtfnkklkdajlhlaaGreatDoorRows
set_option linter.unusedVariables false
set_option linter.unusedSimpArgs false
set_option maxRecDepth 100000
set_option maxHeartbeats 16000000
namespace Go.Proofs.YtfnkklkdajlhlaaGreatDoor
open Go.RowKit Num Bit
theorem v10whole_k (cs : List Value) (a : RA) (w : World) (h : KI w cs a) :
  Calls Tryz.prog 29 #[.agg cs.toArray] w fun e w' => ∃ bo bc, e = .returned (.tuple #[.agg #[.int .i64 (kBN a), .slice bo (kBX a).length bc], .bool (kOk a)]) ∧ Wd w' bo (kBX a) ∧ (kBX a).length ≤ bc ∧ Below w.heap.size w w' := by
 have ZE0 := fun (w0 : World) (hb : Below w.heap.size w w0) => zero_c cs a w0 (h.keep hb)
 have HL := Hid.mk8 h.arg.len
 have sm := h.sm
 have gv := h.gv
 replace h := h.arg
 obtain ⟨cp, cr, cf, rfl, hK, h1, h2, h3⟩ := h
 have l4 := Hid.mk8 h1.four
 have l9 := Hid.mk8 h2.nine
 have LP := Hid.mk8 h1.len
 have LR := Hid.mk8 h2.len
 have LF := Hid.mk8 h3.len
 obtain ⟨K, p, r, f⟩ := a
 dsimp only at *
 have k7 : KI7 w cp p := ⟨h1, sm.p1, sm.p2, sm.p3⟩
 have k8 : KI8 w cr r := ⟨h2, sm.r1, sm.r2, sm.r3, sm.r4, gv⟩
 have k9 : KI9 w cf f := ⟨h3, sm.f0, sm.f1, sm.f2⟩
 have ZE : Hid (∀ w0, Below w.heap.size w w0 → Calls Tryz.prog 56 #[.agg (Value.int .i64 K :: (cp ++ (cr ++ cf))).toArray] w0 fun e w' => e = .returned (.bool (kZs ⟨K, p, r, f⟩)) ∧ Below w0.heap.size w0 w') := ZE0
 clear ZE0 h1 h2 h3 sm gv
 have bw : Below w.heap.size w ((w.alloc (.cells (Value.int .i64 K :: (cp ++ (cr ++ cf))).toArray 45)).alloc (.cells #[.int .i64 0, .slice none 0 0] 33)) := (below_alloc w _).alloc (by simp) _
 have B0 : Cel ((w.alloc (.cells (Value.int .i64 K :: (cp ++ (cr ++ cf))).toArray 45)).alloc (.cells #[.int .i64 0, .slice none 0 0] 33)) w.heap.size (Value.int .i64 K :: (cp ++ (cr ++ cf))) 45 := (Cel.new w _ _).alloc _
 have B2 : Cel ((w.alloc (.cells (Value.int .i64 K :: (cp ++ (cr ++ cf))).toArray 45)).alloc (.cells #[.int .i64 0, .slice none 0 0] 33)) (w.heap.size + 1) [.int .i64 0, .slice none 0 0] 33 := Cel.new2 w _ _ _
 cases hz : kZs ⟨K, p, r, f⟩ with
 | false =>
  have o : kOn ⟨K, p, r, f⟩ = 0 := by unfold kOn; rw [hz]; rfl
  obtain ⟨e1, e2, e3, e4⟩ := on_n (a := ⟨K, p, r, f⟩) (by omega) (by omega) (by omega)
  rw [e1, e2, e3]
  rw [hz] at ZE
  clear e1 e2 e3 e4 o hz k7 k8 k9
  go_enter Tryz.func29, Tryz.ntmps29
  go_wp2_with (refine load_obj w.heap.size _ (by rfl) rfl B0 Tryz.underlying45 HL.out ?_)
  refine (ZE.out _ bw).mono ?_
  rintro e w1 ⟨rfl, hb⟩
  replace B0 := B0.kept hb
  replace B2 := B2.kept hb
  replace bw := bw.trans (hb.mono bw.size)
  clear hb
  obtain ⟨c0, p1, p2, p3⟩ := parts l4.out l9.out B0
  go_wp2_with (refine store_cel (w.heap.size + 1) _ [.int .i64 0, .slice none 0 0] rfl rfl B2 rfl info_bv (by simp [Value.oneCell']) ?_)
  intro w3 B3 O3
  have HZ : Hid (Cel w3 (w.heap.size + 1) [.int .i64 0, .slice none 0 0] 33 ∧ Below w.heap.size w w3) := ⟨B3, bw.trans (O3.below (Nat.le_succ _))⟩
  clear B3 O3 B2 B0 c0 p1 p2 p3
  go_wp2
  (try simp only [Exit.inBlock, Exit.then])
  exact bodyPost_ret (result_cel rfl (w.heap.size + 1) _ rfl HZ.out.1 Tryz.underlying33 info_bv) rfl ⟨none, 0, rfl, wd0' _ _, Nat.le_refl _, HZ.out.2⟩
 | true =>
  have o : kOn ⟨K, p, r, f⟩ = K := by unfold kOn; rw [hz]; rfl
  rw [hz] at ZE
  clear hz
  by_cases q7 : K = 1
  ·subst q7
   obtain ⟨e1, e2, e3, e4⟩ := on_p o
   rw [e1, e2, e3]
   have C : Hid (∀ w0, Below w.heap.size w w0 → Calls Tryz.prog 57 #[.agg cp.toArray] w0 fun e w' => ∃ bo bc, e = .returned (.tuple #[.agg #[.int .i64 (kBN7 p), .slice bo (kBX7 p).length bc], .bool (kOk7 p)]) ∧ Wd w' bo (kBX7 p) ∧ (kBX7 p).length ≤ bc ∧ Below w0.heap.size w0 w') := fun w0 g => p7whole_k cp p w0 (k7.keep g)
   clear e1 e2 e3 e4 k7 k8 k9 o
   generalize kBN7 p = N at *
   generalize kBX7 p = X at *
   generalize kOk7 p = ok at *
   go_enter Tryz.func29, Tryz.ntmps29
   go_wp2_with (refine load_obj w.heap.size _ (by rfl) rfl B0 Tryz.underlying45 HL.out ?_)
   refine (ZE.out _ bw).mono ?_
   rintro e w1 ⟨rfl, hb⟩
   replace B0 := B0.kept hb
   replace B2 := B2.kept hb
   replace bw := bw.trans (hb.mono bw.size)
   clear hb
   obtain ⟨c0, p1, p2, p3⟩ := parts l4.out l9.out B0
   go_wp2_with (refine load_part w.heap.size 1 cp (by rfl) rfl p1 Tryz.underlying37 LP.out ?_)
   refine (C.out _ bw).mono ?_
   rintro e w2 ⟨bo, bc, rfl, hx, hbc, hb⟩
   replace bw := bw.trans (hb.mono bw.size)
   replace B2 := B2.kept hb
   clear hb C ZE B0 c0 p1 p2 p3
   have hne := hx.apart B2 (by intro v hv n; simp at hv; rcases hv with rfl | rfl <;> simp)
   go_wp2_with (refine store_cel (w.heap.size + 1) _ [.int .i64 N, .slice bo X.length bc] rfl rfl B2 rfl info_bv (by simp [Value.oneCell']) ?_)
   intro w3 B3 O3
   have HZ : Hid (Cel w3 (w.heap.size + 1) [.int .i64 N, .slice bo X.length bc] 33 ∧ Wd w3 bo X ∧ Below w.heap.size w w3) := ⟨B3, O3.wd hx hne, bw.trans (O3.below (Nat.le_succ _))⟩
   clear B3 O3 B2 hx hne
   go_wp2
   (try simp only [Exit.inBlock, Exit.then])
   exact bodyPost_ret (result_cel rfl (w.heap.size + 1) _ rfl HZ.out.1 Tryz.underlying33 info_bv) rfl ⟨bo, bc, rfl, HZ.out.2.1, hbc, HZ.out.2.2⟩
  by_cases q8 : K = 2
  ·subst q8
   obtain ⟨e1, e2, e3, e4⟩ := on_r o
   rw [e1, e2, e3]
   have C : Hid (∀ w0, Below w.heap.size w w0 → Calls Tryz.prog 58 #[.agg cr.toArray] w0 fun e w' => ∃ bo bc, e = .returned (.tuple #[.agg #[.int .i64 (kBN8 r), .slice bo (kBX8 r).length bc], .bool (kOk8 r)]) ∧ Wd w' bo (kBX8 r) ∧ (kBX8 r).length ≤ bc ∧ Below w0.heap.size w0 w') := fun w0 g => r8whole_k cr r w0 (k8.keep g)
   clear e1 e2 e3 e4 k7 k8 k9 o
   generalize kBN8 r = N at *
   generalize kBX8 r = X at *
   generalize kOk8 r = ok at *
   go_enter Tryz.func29, Tryz.ntmps29
   go_wp2_with (refine load_obj w.heap.size _ (by rfl) rfl B0 Tryz.underlying45 HL.out ?_)
   refine (ZE.out _ bw).mono ?_
   rintro e w1 ⟨rfl, hb⟩
   replace B0 := B0.kept hb
   replace B2 := B2.kept hb
   replace bw := bw.trans (hb.mono bw.size)
   clear hb
   obtain ⟨c0, p1, p2, p3⟩ := parts l4.out l9.out B0
   go_wp2_with (refine load_part w.heap.size 5 cr (by rfl) rfl p2 Tryz.underlying41 LR.out ?_)
   refine (C.out _ bw).mono ?_
   rintro e w2 ⟨bo, bc, rfl, hx, hbc, hb⟩
   replace bw := bw.trans (hb.mono bw.size)
   replace B2 := B2.kept hb
   clear hb C ZE B0 c0 p1 p2 p3
   have hne := hx.apart B2 (by intro v hv n; simp at hv; rcases hv with rfl | rfl <;> simp)
   go_wp2_with (refine store_cel (w.heap.size + 1) _ [.int .i64 N, .slice bo X.length bc] rfl rfl B2 rfl info_bv (by simp [Value.oneCell']) ?_)
   intro w3 B3 O3
   have HZ : Hid (Cel w3 (w.heap.size + 1) [.int .i64 N, .slice bo X.length bc] 33 ∧ Wd w3 bo X ∧ Below w.heap.size w w3) := ⟨B3, O3.wd hx hne, bw.trans (O3.below (Nat.le_succ _))⟩
   clear B3 O3 B2 hx hne
   go_wp2
   (try simp only [Exit.inBlock, Exit.then])
   exact bodyPost_ret (result_cel rfl (w.heap.size + 1) _ rfl HZ.out.1 Tryz.underlying33 info_bv) rfl ⟨bo, bc, rfl, HZ.out.2.1, hbc, HZ.out.2.2⟩
  by_cases q9 : K = 3
  ·subst q9
   obtain ⟨e1, e2, e3, e4⟩ := on_f o
   rw [e1, e2, e3]
   have C : Hid (∀ w0, Below w.heap.size w w0 → Calls Tryz.prog 59 #[.agg cf.toArray] w0 fun e w' => ∃ bo bc, e = .returned (.tuple #[.agg #[.int .i64 (kBN9 f), .slice bo (kBX9 f).length bc], .bool (kOk9 f)]) ∧ Wd w' bo (kBX9 f) ∧ (kBX9 f).length ≤ bc ∧ Below w0.heap.size w0 w') := fun w0 g => f9whole_k cf f w0 (k9.keep g)
   clear e1 e2 e3 e4 k7 k8 k9 o
   generalize kBN9 f = N at *
   generalize kBX9 f = X at *
   generalize kOk9 f = ok at *
   go_enter Tryz.func29, Tryz.ntmps29
   go_wp2_with (refine load_obj w.heap.size _ (by rfl) rfl B0 Tryz.underlying45 HL.out ?_)
   refine (ZE.out _ bw).mono ?_
   rintro e w1 ⟨rfl, hb⟩
   replace B0 := B0.kept hb
   replace B2 := B2.kept hb
   replace bw := bw.trans (hb.mono bw.size)
   clear hb
   obtain ⟨c0, p1, p2, p3⟩ := parts l4.out l9.out B0
   go_wp2_with (refine load_part w.heap.size 14 cf (by rfl) rfl p3 Tryz.underlying43 LF.out ?_)
   refine (C.out _ bw).mono ?_
   rintro e w2 ⟨bo, bc, rfl, hx, hbc, hb⟩
   replace bw := bw.trans (hb.mono bw.size)
   replace B2 := B2.kept hb
   clear hb C ZE B0 c0 p1 p2 p3
   have hne := hx.apart B2 (by intro v hv n; simp at hv; rcases hv with rfl | rfl <;> simp)
   go_wp2_with (refine store_cel (w.heap.size + 1) _ [.int .i64 N, .slice bo X.length bc] rfl rfl B2 rfl info_bv (by simp [Value.oneCell']) ?_)
   intro w3 B3 O3
   have HZ : Hid (Cel w3 (w.heap.size + 1) [.int .i64 N, .slice bo X.length bc] 33 ∧ Wd w3 bo X ∧ Below w.heap.size w w3) := ⟨B3, O3.wd hx hne, bw.trans (O3.below (Nat.le_succ _))⟩
   clear B3 O3 B2 hx hne
   go_wp2
   (try simp only [Exit.inBlock, Exit.then])
   exact bodyPost_ret (result_cel rfl (w.heap.size + 1) _ rfl HZ.out.1 Tryz.underlying33 info_bv) rfl ⟨bo, bc, rfl, HZ.out.2.1, hbc, HZ.out.2.2⟩
  obtain ⟨e1, e2, e3, e4⟩ := on_n (a := ⟨K, p, r, f⟩) (by rw [o]; exact q7) (by rw [o]; exact q8) (by rw [o]; exact q9)
  rw [e1, e2, e3]
  have d7 : (K == 1) = false := by simp [q7]
  have d8 : (K == 2) = false := by simp [q8]
  have d9 : (K == 3) = false := by simp [q9]
  clear e1 e2 e3 e4 o k7 k8 k9
  go_enter Tryz.func29, Tryz.ntmps29
  go_wp2_with (refine load_obj w.heap.size _ (by rfl) rfl B0 Tryz.underlying45 HL.out ?_)
  refine (ZE.out _ bw).mono ?_
  rintro e w1 ⟨rfl, hb⟩
  replace B0 := B0.kept hb
  replace B2 := B2.kept hb
  replace bw := bw.trans (hb.mono bw.size)
  clear hb
  obtain ⟨c0, p1, p2, p3⟩ := parts l4.out l9.out B0
  go_wp2_with (refine store_cel (w.heap.size + 1) _ [.int .i64 0, .slice none 0 0] rfl rfl B2 rfl info_bv (by simp [Value.oneCell']) ?_)
  intro w3 B3 O3
  have HZ : Hid (Cel w3 (w.heap.size + 1) [.int .i64 0, .slice none 0 0] 33 ∧ Below w.heap.size w w3) := ⟨B3, bw.trans (O3.below (Nat.le_succ _))⟩
  clear B3 O3 B2 B0 c0 p1 p2 p3
  go_wp2
  (try simp only [Exit.inBlock, Exit.then])
  exact bodyPost_ret (result_cel rfl (w.heap.size + 1) _ rfl HZ.out.1 Tryz.underlying33 info_bv) rfl ⟨none, 0, rfl, wd0' _ _, Nat.le_refl _, HZ.out.2⟩
theorem v10info_b : (Tryz.prog.info? 33).map (·.size) = some 2 := by kernel_rfl
theorem v10bits_g (cs : List Value) (IL : Hid ((Tryz.prog.info? 45).map (·.size) = some cs.length)) (ok : Bool) (N : Int) (X : List Nat) (w : World) (hf : Fit X) (hck : ok = true → chk N X = true) (C1 : Hid (∀ w0, Below w.heap.size w w0 → Calls Tryz.prog 29 #[.agg cs.toArray] w0 fun e w' => ∃ bo bc, e = .returned (.tuple #[.agg #[.int .i64 N, .slice bo X.length bc], .bool ok]) ∧ Wd w' bo X ∧ X.length ≤ bc ∧ Below w0.heap.size w0 w')) :
  Calls Tryz.prog 10 #[.agg cs.toArray] w fun e w' => ∃ bo bc, e = .returned (.agg #[.int .i64 N, .slice bo X.length bc]) ∧ Wd w' bo X ∧ X.length ≤ bc ∧ Below w.heap.size w w' := by
 have bW : Below w.heap.size w ((w.alloc (.cells cs.toArray 45)).alloc (.cells #[.int .i64 0, .slice none 0 0] 33)) := (below_alloc w _).alloc (by simp) _
 have BX : Cel ((w.alloc (.cells cs.toArray 45)).alloc (.cells #[.int .i64 0, .slice none 0 0] 33)) w.heap.size cs 45 := (Cel.new w cs 45).alloc _
 have B2 : Cel ((w.alloc (.cells cs.toArray 45)).alloc (.cells #[.int .i64 0, .slice none 0 0] 33)) (w.heap.size + 1) [.int .i64 0, .slice none 0 0] 33 := Cel.new2 w _ _ _
 go_enter Tryz.func10, Tryz.ntmps10
 go_wp2_with (refine load_obj w.heap.size cs (by rfl) rfl BX Tryz.underlying45 IL.out ?_)
 refine (C1.out _ bW).mono ?_
 rintro e w1 ⟨bo, bc, rfl, hx, hbc, hb⟩
 have bw1 := bW.trans (hb.mono bW.size)
 have z2 : w.heap.size + 1 < w1.heap.size := Nat.lt_of_lt_of_le B2.lt hb.size
 replace B2 := B2.kept hb
 have bA := below_alloc w1 (.cells #[.int .i64 N, .slice bo X.length bc] 33)
 replace B2 := B2.kept bA
 have hx2 := hx.keep bA
 have bw2 := bw1.trans (bA.mono bw1.size)
 have D1 := Cel.new w1 [.int .i64 N, .slice bo X.length bc] 33
 have hne := hx2.apart B2 (by intro v hv n; simp at hv; rcases hv with rfl | rfl <;> simp)
 go_wp2_with (first | refine load_cel w1.heap.size _ rfl D1 Tryz.underlying33 v10info_b ?_ | refine store_cel (w.heap.size + 1) _ _ rfl rfl B2 rfl v10info_b (by simp [Value.oneCell']) ?_)
 intro w3 B3 O3
 have HZ : Hid (Cel w3 (w.heap.size + 1) [.int .i64 N, .slice bo X.length bc] 33 ∧ Wd w3 bo X ∧ Below w.heap.size w w3) := ⟨B3, O3.wd hx2 hne, bw2.trans (O3.below (Nat.le_succ _))⟩
 clear B3 O3 hx hx2 hb B2 D1 BX
 go_wp2
 (try simp only [Exit.inBlock, Exit.then])
 exact bodyPost_ret (result_cel1 rfl (w.heap.size + 1) _ rfl HZ.out.1 Tryz.underlying33 v10info_b) rfl ⟨bo, bc, rfl, HZ.out.2.1, hbc, HZ.out.2.2⟩
theorem KI.fit {w : World} {cs : List Value} {a : RA} (h : KI w cs a) : Fit (kBX a) := by
 by_cases h1 : kOn a = 1
 ·rw [(on_p h1).2.2.1]
  obtain ⟨⟨cp, cr, cf, _, _, ⟨ao, cap, so, sc, tO, tc, _, h⟩, _⟩, _⟩ := h
  exact pi_fit a.p.N a.p.xs a.p.S a.p.T h.f
 by_cases h2 : kOn a = 2
 ·rw [(on_r h2).2.2.1]
  exact kB_fit8 _
 by_cases h3 : kOn a = 3
 ·rw [(on_f h3).2.2.1]
  exact kB_fit9 _
 rw [(on_n h1 h2 h3).2.2.1]
 exact fit_nil
theorem v10bits_k (cs : List Value) (a : RA) (w : World) (h : KI w cs a) :
  Calls Tryz.prog 10 #[.agg cs.toArray] w fun e w' => ∃ bo bc, e = .returned (.agg #[.int .i64 (kBN a), .slice bo (kBX a).length bc]) ∧ Wd w' bo (kBX a) ∧ (kBX a).length ≤ bc ∧ Below w.heap.size w w' :=
 v10bits_g cs (Hid.mk8 h.arg.len) (kOk a) (kBN a) (kBX a) w h.fit (kB_chk a) (fun w0 hb => v10whole_k cs a w0 (h.keep hb))
theorem and_tt {a b : Bool} (ha : a = true) (hb : b = true) : (a && b) = true := by rw [ha, hb]; rfl
theorem trod_int1 {W : World} {fuel : Nat} {t : TypeId} {k : IntKind} {cs : List Value} {y : DataW Unit × List MemPlace} (hu : Tryz.prog.underlying t = some (.int k)) (h : DataW.trod (fun _ => ()) Tryz.prog W 0 (fun _ => true) false fuel t cs = some y) : ∃ n, cs = [.int k n] ∧ y.1 = .lit (.int k n) := by
 cases fuel with
 | zero => simp [DataW.trod] at h
 | succ fuel =>
  unfold DataW.trod at h
  rw [hu] at h
  match cs, h with
  | [.int k' n], h =>
   dsimp only at h
   split at h
   ·rename_i hk
    obtain ⟨rfl, _⟩ := hk
    cases h
    exact ⟨n, rfl, rfl⟩
   ·cases h
theorem mapM_get {α β : Type} (f : α → Option β) : ∀ (L : List α) (ys : List β), L.mapM f = some ys → ys.length = L.length ∧ ∀ (i : Nat) a y, L[i]? = some a → ys[i]? = some y → f a = some y
 | [], ys, h => by
  rw [List.mapM_nil] at h
  cases h
  exact ⟨rfl, fun i a y e => by simp at e⟩
 | b :: L, ys, h => by
  rw [List.mapM_cons] at h
  simp only [Option.bind_eq_bind, Option.bind_eq_some_iff, Option.pure_def, Option.some.injEq] at h
  obtain ⟨z, h1, zs, h2, rfl⟩ := h
  obtain ⟨e1, e2⟩ := mapM_get f L zs h2
  refine ⟨by simp [e1], fun i a y ha hy => ?_⟩
  cases i with
  | zero => simp at ha hy; subst ha; subst hy; exact h1
  | succ i => exact e2 i a y (by simpa using ha) (by simpa using hy)
theorem trod_arr {W : World} {fuel n : Nat} {t e : TypeId} {k : IntKind} {cs : List Value} {l : List Int} {p : List MemPlace} (hu : Tryz.prog.underlying t = some (.array n e)) (he : Tryz.prog.underlying e = some (.int k)) (ce : Tryz.prog.cellsOf e = 1) (ct : Tryz.prog.cellsOf t = n)
  (h : DataW.trod (fun _ => ()) Tryz.prog W 0 (fun _ => true) false fuel t cs = some (.agg (l.map fun x => .lit (.int k x)), p)) : cs = l.map fun x => .int k x := by
 cases fuel with
 | zero => simp [DataW.trod] at h
 | succ fuel =>
  unfold DataW.trod at h
  rw [hu] at h
  dsimp only at h
  split at h
  ·rename_i hl
   rw [Option.map_eq_some_iff] at h
   obtain ⟨ys, h1, h2⟩ := h
   obtain ⟨g1, g2⟩ := mapM_get _ _ _ h1
   simp only [Prod.mk.injEq, DataW.agg.injEq] at h2
   have hy := h2.1
   have ll : l.length = n := by
    have := congrArg List.length hy
    simp only [List.length_map] at this
    rw [← this, g1, List.length_range]
   rw [ct] at hl
   refine List.ext_getElem? fun i => ?_
   by_cases hi : i < n
   ·obtain ⟨y, ey⟩ : ∃ y, ys[i]? = some y := ⟨_, List.getElem?_eq_getElem (by rw [g1, List.length_range]; exact hi)⟩
    have e3 := g2 i i y (List.getElem?_range hi) ey
    obtain ⟨m, e4, e5⟩ := trod_int1 he e3
    have e6 : (ys.map (·.1))[i]? = some (.lit (.int k m)) := by rw [List.getElem?_map, ey]; exact congrArg some e5
    rw [hy, List.getElem?_map] at e6
    obtain ⟨x, ex⟩ : ∃ x, l[i]? = some x := ⟨_, List.getElem?_eq_getElem (by omega)⟩
    rw [ex] at e6
    simp only [Option.map_some, Option.some.injEq, DataW.lit.injEq, Lit.int.injEq, true_and] at e6
    rw [List.getElem?_map, ex, e6]
    rw [ce, Nat.mul_one] at e4
    have e7 := congrArg (·[0]?) e4
    simp only [List.getElem?_take_of_lt (Nat.one_pos), List.getElem?_drop, Nat.add_zero] at e7
    exact e7
   ·rw [List.getElem?_eq_none (by omega), List.getElem?_eq_none (by rw [List.length_map]; omega)]
  ·cases h
theorem cel_laid {W : World} {g : Nat} {nm : String} {cs : Array Value} {vs : List Value} (hg : Tryz.prog.globalNamed nm = some g) (hv : W.var? Tryz.prog nm = some cs) (hc : cs.toList = vs) (hm : ∃ c t, W.heap[g]? = some (.cells c t (0, 0))) : Tb W g vs := by
 obtain ⟨c, t, e⟩ := hm
 refine ⟨t, ?_⟩
 unfold World.var? at hv
 rw [hg] at hv
 simp only [Option.bind_some, e, Option.some.injEq] at hv
 subst hv
 unfold Cel
 rw [e, ← hc]
def laidL : List (String × DataW Unit) := [("errors.errorType", Rows.laid_errors_errorType), ("haystack/rrr.ways", Rows.laid_haystack_rrr_ways), ("haystack/rrr.widths", Rows.laid_haystack_rrr_widths)]
theorem gv_of_laid {W : World} (h : laidMetH Tryz.prog laidL W) : GV W := by
 have h0 : laidMet Tryz.prog [("haystack/rrr.ways", Rows.laid_haystack_rrr_ways), ("haystack/rrr.widths", Rows.laid_haystack_rrr_widths)] W := And.left (show _ ∧ _ from h)
 obtain ⟨ps, ⟨g, t, cs, fuel, p, q, hg, ht, hv, hd, ⟨g2, t2, cs2, fuel2, p2, q2, hg2, ht2, hv2, hd2, hr, hq⟩, hps⟩, _, hm⟩ := h0
 obtain rfl : q2 = [] := hr
 obtain rfl := Option.some.inj ((show Tryz.prog.globalNamed "haystack/rrr.ways" = some 0 by kernel_rfl).symm.trans hg)
 obtain rfl := Option.some.inj ((show Tryz.prog.globalNamed "haystack/rrr.widths" = some 1 by kernel_rfl).symm.trans hg2)
 obtain rfl := Option.some.inj ((show (Tryz.prog.globals[0]?).map (·.type) = some 187 by kernel_rfl).symm.trans ht)
 obtain rfl := Option.some.inj ((show (Tryz.prog.globals[1]?).map (·.type) = some 202 by kernel_rfl).symm.trans ht2)
 have e1 : cs.toList = wv chL := (trod_arr (l := [1, 15, 105, 455, 1365, 3003, 5005, 6435, 6435, 5005, 3003, 1365, 455, 105, 15, 1]) Tryz.underlying187 Tryz.underlying110 (by kernel_rfl) (by kernel_rfl) hd).trans rfl
 have e2 : cs2.toList = vI wdL := (trod_arr (l := [0, 4, 7, 9, 11, 12, 13, 13, 13, 13, 12, 11, 9, 7, 4, 0]) Tryz.underlying202 Tryz.underlying3 (by kernel_rfl) (by kernel_rfl) hd2).trans rfl
 have s1 : cs.size = 16 := by rw [← Array.length_toList, e1]; rfl
 have s2 : cs2.size = 16 := by rw [← Array.length_toList, e2]; rfl
 refine ⟨cel_laid hg2 hv2 e2 (hm _ 0 ?_).1, cel_laid hg hv e1 (hm _ 0 ?_).1⟩
 ·rw [hps, hq, s2]
  exact List.mem_append_right _ (List.mem_append_left _ (List.mem_append_left _ (List.mem_map.2 ⟨0, List.mem_range.2 (by decide), rfl⟩)))
 ·rw [hps, s1]
  exact List.mem_append_left _ (List.mem_append_left _ (List.mem_map.2 ⟨0, List.mem_range.2 (by decide), rfl⟩))
end Go.Proofs.YtfnkklkdajlhlaaGreatDoor
