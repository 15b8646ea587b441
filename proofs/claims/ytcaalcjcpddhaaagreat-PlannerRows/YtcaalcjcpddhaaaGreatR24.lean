/-
  The contract of the document's Whole. The contracts of the document's Check, Bits, Access, Rank and Select, over that of its Whole. The contracts of the document's Check, Bits, Access, Rank, Select, Size and Same, over objects. Plain: the order of a text's ends; a row that is sorted is one alone; beginnings of twice the length.
-/
import Derived.Test.YtcaalcjcpddhaaaGreatR23
import Derived.Test.YtcaalcjcpddhaaaGreatR18
import Derived.Test.YtcaalcjcpddhaaaGreatR20
import Derived.Test.YtcaalcjcpddhaaaGreatR22
import Derived.Test.YtcaalcjcpddhaaaGreatR13
import Derived.Test.YtcaalcjcpddhaaaGreatR11
import Derived.Test.YtcaalcjcpddhaaaGreatR02
import Derived.Test.YtcaalcjcpddhaaaGreatR14
namespace Go.Proofs.YtcaalcjcpddhaaaGreat
open Go.RowKit Num Bit
set_option linter.unusedVariables false
set_option linter.unusedSimpArgs false
set_option maxRecDepth 100000

set_option maxHeartbeats 4000000 in
theorem v10whole_k (cs : List Value) (a : RA) (w : World) (h : KI w cs a) :
  Calls Tryz.prog 40 #[.agg cs.toArray] w fun e w' => ∃ bo bc, e = .returned (.tuple #[.agg #[.int .i64 (kBN a), .slice bo (kBX a).length bc], .bool (kOk a)]) ∧ Wd w' bo (kBX a) ∧ (kBX a).length ≤ bc ∧ Below w.heap.size w w' := by
 have ZE0 := fun (w0 : World) (hb : Below w.heap.size w w0) => zero_c cs a w0 (h.keep hb)
 have HL := Hid.mk8 h.arg.len
 have sm := h.sm
 have gv := h.gv
 replace h := h.arg
 obtain ⟨cp, cr, cf, rfl, hK, h1, h2, h3⟩ := h
 have l4 := Hid.mk8 h1.four
 have l9 := Hid.mk8 h2.nine
 have LP := Hid.mk8 h1.len
 have LR := Hid.mk8 h2.len
 have LF := Hid.mk8 h3.len
 obtain ⟨K, p, r, f⟩ := a
 dsimp only at *
 have k7 : KI7 w cp p := ⟨h1, sm.p1, sm.p2, sm.p3⟩
 have k8 : KI8 w cr r := ⟨h2, sm.r1, sm.r2, sm.r3, sm.r4, gv⟩
 have k9 : KI9 w cf f := ⟨h3, sm.f0, sm.f1, sm.f2⟩
 have ZE : Hid (∀ w0, Below w.heap.size w w0 → Calls Tryz.prog 68 #[.agg (Value.int .i64 K :: (cp ++ (cr ++ cf))).toArray] w0 fun e w' => e = .returned (.bool (kZs ⟨K, p, r, f⟩)) ∧ Below w0.heap.size w0 w') := ZE0
 clear ZE0 h1 h2 h3 sm gv
 have bw : Below w.heap.size w ((w.alloc (.cells (Value.int .i64 K :: (cp ++ (cr ++ cf))).toArray 36)).alloc (.cells #[.int .i64 0, .slice none 0 0] 24)) := (below_alloc w _).alloc (by simp) _
 have B0 : Cel ((w.alloc (.cells (Value.int .i64 K :: (cp ++ (cr ++ cf))).toArray 36)).alloc (.cells #[.int .i64 0, .slice none 0 0] 24)) w.heap.size (Value.int .i64 K :: (cp ++ (cr ++ cf))) 36 := (Cel.new w _ _).alloc _
 have B2 : Cel ((w.alloc (.cells (Value.int .i64 K :: (cp ++ (cr ++ cf))).toArray 36)).alloc (.cells #[.int .i64 0, .slice none 0 0] 24)) (w.heap.size + 1) [.int .i64 0, .slice none 0 0] 24 := Cel.new2 w _ _ _
 cases hz : kZs ⟨K, p, r, f⟩ with
 | false =>
  have o : kOn ⟨K, p, r, f⟩ = 0 := by unfold kOn; rw [hz]; rfl
  obtain ⟨e1, e2, e3, e4⟩ := on_n (a := ⟨K, p, r, f⟩) (by omega) (by omega) (by omega)
  rw [e1, e2, e3]
  rw [hz] at ZE
  clear e1 e2 e3 e4 o hz k7 k8 k9
  go_enter Tryz.func40, Tryz.ntmps40
  go_wp2_with (refine load_obj w.heap.size _ (by rfl) rfl B0 Tryz.underlying36 HL.out ?_)
  refine (ZE.out _ bw).mono ?_
  rintro e w1 ⟨rfl, hb⟩
  replace B0 := B0.kept hb
  replace B2 := B2.kept hb
  replace bw := bw.trans (hb.mono bw.size)
  clear hb
  obtain ⟨c0, p1, p2, p3⟩ := parts l4.out l9.out B0
  go_wp2_with (refine store_cel (w.heap.size + 1) _ [.int .i64 0, .slice none 0 0] rfl rfl B2 rfl info_bv (by simp [Value.oneCell']) ?_)
  intro w3 B3 O3
  have HZ : Hid (Cel w3 (w.heap.size + 1) [.int .i64 0, .slice none 0 0] 24 ∧ Below w.heap.size w w3) := ⟨B3, bw.trans (O3.below (Nat.le_succ _))⟩
  clear B3 O3 B2 B0 c0 p1 p2 p3
  go_wp2
  (try simp only [Exit.inBlock, Exit.then])
  exact bodyPost_ret (result_cel rfl (w.heap.size + 1) _ rfl HZ.out.1 Tryz.underlying24 info_bv) rfl ⟨none, 0, rfl, wd0' _ _, Nat.le_refl _, HZ.out.2⟩
 | true =>
  have o : kOn ⟨K, p, r, f⟩ = K := by unfold kOn; rw [hz]; rfl
  rw [hz] at ZE
  clear hz
  by_cases q7 : K = 1
  ·subst q7
   obtain ⟨e1, e2, e3, e4⟩ := on_p o
   rw [e1, e2, e3]
   have C : Hid (∀ w0, Below w.heap.size w w0 → Calls Tryz.prog 69 #[.agg cp.toArray] w0 fun e w' => ∃ bo bc, e = .returned (.tuple #[.agg #[.int .i64 (kBN7 p), .slice bo (kBX7 p).length bc], .bool (kOk7 p)]) ∧ Wd w' bo (kBX7 p) ∧ (kBX7 p).length ≤ bc ∧ Below w0.heap.size w0 w') := fun w0 g => p7whole_k cp p w0 (k7.keep g)
   clear e1 e2 e3 e4 k7 k8 k9 o
   generalize kBN7 p = N at *
   generalize kBX7 p = X at *
   generalize kOk7 p = ok at *
   go_enter Tryz.func40, Tryz.ntmps40
   go_wp2_with (refine load_obj w.heap.size _ (by rfl) rfl B0 Tryz.underlying36 HL.out ?_)
   refine (ZE.out _ bw).mono ?_
   rintro e w1 ⟨rfl, hb⟩
   replace B0 := B0.kept hb
   replace B2 := B2.kept hb
   replace bw := bw.trans (hb.mono bw.size)
   clear hb
   obtain ⟨c0, p1, p2, p3⟩ := parts l4.out l9.out B0
   go_wp2_with (refine load_part w.heap.size 1 cp (by rfl) rfl p1 Tryz.underlying28 LP.out ?_)
   refine (C.out _ bw).mono ?_
   rintro e w2 ⟨bo, bc, rfl, hx, hbc, hb⟩
   replace bw := bw.trans (hb.mono bw.size)
   replace B2 := B2.kept hb
   clear hb C ZE B0 c0 p1 p2 p3
   have hne := hx.apart B2 (by intro v hv n; simp at hv; rcases hv with rfl | rfl <;> simp)
   go_wp2_with (refine store_cel (w.heap.size + 1) _ [.int .i64 N, .slice bo X.length bc] rfl rfl B2 rfl info_bv (by simp [Value.oneCell']) ?_)
   intro w3 B3 O3
   have HZ : Hid (Cel w3 (w.heap.size + 1) [.int .i64 N, .slice bo X.length bc] 24 ∧ Wd w3 bo X ∧ Below w.heap.size w w3) := ⟨B3, O3.wd hx hne, bw.trans (O3.below (Nat.le_succ _))⟩
   clear B3 O3 B2 hx hne
   go_wp2
   (try simp only [Exit.inBlock, Exit.then])
   exact bodyPost_ret (result_cel rfl (w.heap.size + 1) _ rfl HZ.out.1 Tryz.underlying24 info_bv) rfl ⟨bo, bc, rfl, HZ.out.2.1, hbc, HZ.out.2.2⟩
  by_cases q8 : K = 2
  ·subst q8
   obtain ⟨e1, e2, e3, e4⟩ := on_r o
   rw [e1, e2, e3]
   have C : Hid (∀ w0, Below w.heap.size w w0 → Calls Tryz.prog 70 #[.agg cr.toArray] w0 fun e w' => ∃ bo bc, e = .returned (.tuple #[.agg #[.int .i64 (kBN8 r), .slice bo (kBX8 r).length bc], .bool (kOk8 r)]) ∧ Wd w' bo (kBX8 r) ∧ (kBX8 r).length ≤ bc ∧ Below w0.heap.size w0 w') := fun w0 g => r8whole_k cr r w0 (k8.keep g)
   clear e1 e2 e3 e4 k7 k8 k9 o
   generalize kBN8 r = N at *
   generalize kBX8 r = X at *
   generalize kOk8 r = ok at *
   go_enter Tryz.func40, Tryz.ntmps40
   go_wp2_with (refine load_obj w.heap.size _ (by rfl) rfl B0 Tryz.underlying36 HL.out ?_)
   refine (ZE.out _ bw).mono ?_
   rintro e w1 ⟨rfl, hb⟩
   replace B0 := B0.kept hb
   replace B2 := B2.kept hb
   replace bw := bw.trans (hb.mono bw.size)
   clear hb
   obtain ⟨c0, p1, p2, p3⟩ := parts l4.out l9.out B0
   go_wp2_with (refine load_part w.heap.size 5 cr (by rfl) rfl p2 Tryz.underlying32 LR.out ?_)
   refine (C.out _ bw).mono ?_
   rintro e w2 ⟨bo, bc, rfl, hx, hbc, hb⟩
   replace bw := bw.trans (hb.mono bw.size)
   replace B2 := B2.kept hb
   clear hb C ZE B0 c0 p1 p2 p3
   have hne := hx.apart B2 (by intro v hv n; simp at hv; rcases hv with rfl | rfl <;> simp)
   go_wp2_with (refine store_cel (w.heap.size + 1) _ [.int .i64 N, .slice bo X.length bc] rfl rfl B2 rfl info_bv (by simp [Value.oneCell']) ?_)
   intro w3 B3 O3
   have HZ : Hid (Cel w3 (w.heap.size + 1) [.int .i64 N, .slice bo X.length bc] 24 ∧ Wd w3 bo X ∧ Below w.heap.size w w3) := ⟨B3, O3.wd hx hne, bw.trans (O3.below (Nat.le_succ _))⟩
   clear B3 O3 B2 hx hne
   go_wp2
   (try simp only [Exit.inBlock, Exit.then])
   exact bodyPost_ret (result_cel rfl (w.heap.size + 1) _ rfl HZ.out.1 Tryz.underlying24 info_bv) rfl ⟨bo, bc, rfl, HZ.out.2.1, hbc, HZ.out.2.2⟩
  by_cases q9 : K = 3
  ·subst q9
   obtain ⟨e1, e2, e3, e4⟩ := on_f o
   rw [e1, e2, e3]
   have C : Hid (∀ w0, Below w.heap.size w w0 → Calls Tryz.prog 71 #[.agg cf.toArray] w0 fun e w' => ∃ bo bc, e = .returned (.tuple #[.agg #[.int .i64 (kBN9 f), .slice bo (kBX9 f).length bc], .bool (kOk9 f)]) ∧ Wd w' bo (kBX9 f) ∧ (kBX9 f).length ≤ bc ∧ Below w0.heap.size w0 w') := fun w0 g => f9whole_k cf f w0 (k9.keep g)
   clear e1 e2 e3 e4 k7 k8 k9 o
   generalize kBN9 f = N at *
   generalize kBX9 f = X at *
   generalize kOk9 f = ok at *
   go_enter Tryz.func40, Tryz.ntmps40
   go_wp2_with (refine load_obj w.heap.size _ (by rfl) rfl B0 Tryz.underlying36 HL.out ?_)
   refine (ZE.out _ bw).mono ?_
   rintro e w1 ⟨rfl, hb⟩
   replace B0 := B0.kept hb
   replace B2 := B2.kept hb
   replace bw := bw.trans (hb.mono bw.size)
   clear hb
   obtain ⟨c0, p1, p2, p3⟩ := parts l4.out l9.out B0
   go_wp2_with (refine load_part w.heap.size 14 cf (by rfl) rfl p3 Tryz.underlying34 LF.out ?_)
   refine (C.out _ bw).mono ?_
   rintro e w2 ⟨bo, bc, rfl, hx, hbc, hb⟩
   replace bw := bw.trans (hb.mono bw.size)
   replace B2 := B2.kept hb
   clear hb C ZE B0 c0 p1 p2 p3
   have hne := hx.apart B2 (by intro v hv n; simp at hv; rcases hv with rfl | rfl <;> simp)
   go_wp2_with (refine store_cel (w.heap.size + 1) _ [.int .i64 N, .slice bo X.length bc] rfl rfl B2 rfl info_bv (by simp [Value.oneCell']) ?_)
   intro w3 B3 O3
   have HZ : Hid (Cel w3 (w.heap.size + 1) [.int .i64 N, .slice bo X.length bc] 24 ∧ Wd w3 bo X ∧ Below w.heap.size w w3) := ⟨B3, O3.wd hx hne, bw.trans (O3.below (Nat.le_succ _))⟩
   clear B3 O3 B2 hx hne
   go_wp2
   (try simp only [Exit.inBlock, Exit.then])
   exact bodyPost_ret (result_cel rfl (w.heap.size + 1) _ rfl HZ.out.1 Tryz.underlying24 info_bv) rfl ⟨bo, bc, rfl, HZ.out.2.1, hbc, HZ.out.2.2⟩
  obtain ⟨e1, e2, e3, e4⟩ := on_n (a := ⟨K, p, r, f⟩) (by rw [o]; exact q7) (by rw [o]; exact q8) (by rw [o]; exact q9)
  rw [e1, e2, e3]
  have d7 : (K == 1) = false := by simp [q7]
  have d8 : (K == 2) = false := by simp [q8]
  have d9 : (K == 3) = false := by simp [q9]
  clear e1 e2 e3 e4 o k7 k8 k9
  go_enter Tryz.func40, Tryz.ntmps40
  go_wp2_with (refine load_obj w.heap.size _ (by rfl) rfl B0 Tryz.underlying36 HL.out ?_)
  refine (ZE.out _ bw).mono ?_
  rintro e w1 ⟨rfl, hb⟩
  replace B0 := B0.kept hb
  replace B2 := B2.kept hb
  replace bw := bw.trans (hb.mono bw.size)
  clear hb
  obtain ⟨c0, p1, p2, p3⟩ := parts l4.out l9.out B0
  go_wp2_with (refine store_cel (w.heap.size + 1) _ [.int .i64 0, .slice none 0 0] rfl rfl B2 rfl info_bv (by simp [Value.oneCell']) ?_)
  intro w3 B3 O3
  have HZ : Hid (Cel w3 (w.heap.size + 1) [.int .i64 0, .slice none 0 0] 24 ∧ Below w.heap.size w w3) := ⟨B3, bw.trans (O3.below (Nat.le_succ _))⟩
  clear B3 O3 B2 B0 c0 p1 p2 p3
  go_wp2
  (try simp only [Exit.inBlock, Exit.then])
  exact bodyPost_ret (result_cel rfl (w.heap.size + 1) _ rfl HZ.out.1 Tryz.underlying24 info_bv) rfl ⟨none, 0, rfl, wd0' _ _, Nat.le_refl _, HZ.out.2⟩
end Go.Proofs.YtcaalcjcpddhaaaGreat

namespace Go.Proofs.YtcaalcjcpddhaaaGreat
open Go.RowKit Num Bit
set_option linter.unusedVariables false
set_option linter.unusedSimpArgs false
set_option maxRecDepth 100000

set_option maxHeartbeats 2000000 in
theorem v10check_g (cs : List Value) (IL : Hid ((Tryz.prog.info? 36).map (·.size) = some cs.length)) (ok : Bool) (N : Int) (X : List Nat) (w : World) (hf : Fit X) (hck : ok = true → chk N X = true) (C1 : Hid (∀ w0, Below w.heap.size w w0 → Calls Tryz.prog 40 #[.agg cs.toArray] w0 fun e w' => ∃ bo bc, e = .returned (.tuple #[.agg #[.int .i64 N, .slice bo X.length bc], .bool ok]) ∧ Wd w' bo X ∧ X.length ≤ bc ∧ Below w0.heap.size w0 w')) :
  Calls Tryz.prog 15 #[.agg cs.toArray] w fun e w' => e = .returned (.bool ok) ∧ Below w.heap.size w w' := by
 have bW : Below w.heap.size w (w.alloc (.cells cs.toArray 36)) := below_alloc w _
 have BX := Cel.new w cs 36
 go_enter Tryz.func15, Tryz.ntmps15
 go_wp2_with (refine load_obj w.heap.size cs (by rfl) rfl BX Tryz.underlying36 IL.out ?_)
 refine (C1.out _ bW).mono ?_
 rintro e w1 ⟨bo, bc, rfl, hx, hbc, hb⟩
 have bw1 := bW.trans (hb.mono bW.size)
 clear hb C1 BX
 have bA := below_alloc w1 (.cells #[.int .i64 N, .slice bo X.length bc] 24)
 have bw2 := bw1.trans (bA.mono bw1.size)
 go_wp2
 go_ret
 exact ⟨rfl, bw2⟩
end Go.Proofs.YtcaalcjcpddhaaaGreat

namespace Go.Proofs.YtcaalcjcpddhaaaGreat
open Go.RowKit Num Bit
set_option linter.unusedVariables false
set_option linter.unusedSimpArgs false
set_option maxRecDepth 100000

theorem KI.fit {w : World} {cs : List Value} {a : RA} (h : KI w cs a) : Fit (kBX a) := by
 by_cases h1 : kOn a = 1
 ·rw [(on_p h1).2.2.1]
  obtain ⟨⟨cp, cr, cf, _, _, ⟨ao, cap, so, sc, tO, tc, _, h⟩, _⟩, _⟩ := h
  exact pi_fit a.p.N a.p.xs a.p.S a.p.T h.f
 by_cases h2 : kOn a = 2
 ·rw [(on_r h2).2.2.1]
  exact kB_fit8 _
 by_cases h3 : kOn a = 3
 ·rw [(on_f h3).2.2.1]
  exact kB_fit9 _
 rw [(on_n h1 h2 h3).2.2.1]
 exact fit_nil
theorem v10check_k (cs : List Value) (a : RA) (w : World) (h : KI w cs a) :
  Calls Tryz.prog 15 #[.agg cs.toArray] w fun e w' => e = .returned (.bool (kOk a)) ∧ Below w.heap.size w w' :=
 v10check_g cs (Hid.mk8 h.arg.len) (kOk a) (kBN a) (kBX a) w h.fit (kB_chk a) (fun w0 hb => v10whole_k cs a w0 (h.keep hb))
theorem kZ_bad (a : RA) (h : kOk a = false) : kZ a = 0 := by
 by_cases h1 : kOn a = 1
 ·obtain ⟨e1, _, _, e4⟩ := on_p h1
  rw [e4]
  unfold kZ7 pzN
  rw [show pchk a.p.N a.p.xs a.p.S a.p.T = false from e1.symm.trans h]
  rfl
 by_cases h2 : kOn a = 2
 ·obtain ⟨e1, _, _, e4⟩ := on_r h2
  rw [e4]
  unfold kZ8 rzN
  rw [show rOk a.r.N a.r.k a.r.V a.r.M a.r.xs a.r.L a.r.ys a.r.S a.r.T = false from e1.symm.trans h]
  rfl
 by_cases h3 : kOn a = 3
 ·obtain ⟨e1, _, _, e4⟩ := on_f h3
  rw [e4]
  unfold kZ9
  rw [if_neg (by rw [← e1, h]; decide)]
 exact (on_n h1 h2 h3).2.2.2
set_option maxHeartbeats 4000000 in
theorem v10size_k (cs : List Value) (a : RA) (w : World) (h : KI w cs a) :
  Calls Tryz.prog 6 #[.agg cs.toArray] w fun e w' => e = .returned (.int .i64 (kZ a)) ∧ Below w.heap.size w w' := by
 have CH0 := fun (w0 : World) (hb : Below w.heap.size w w0) => v10check_k cs a w0 (h.keep hb)
 have HL := Hid.mk8 h.arg.len
 have sm := h.sm
 have gv := h.gv
 replace h := h.arg
 obtain ⟨cp, cr, cf, rfl, hK, h1, h2, h3⟩ := h
 have l4 := Hid.mk8 h1.four
 have l9 := Hid.mk8 h2.nine
 have LP := Hid.mk8 h1.len
 have LR := Hid.mk8 h2.len
 have LF := Hid.mk8 h3.len
 obtain ⟨K, p, r, f⟩ := a
 dsimp only at *
 have k7 : KI7 w cp p := ⟨h1, sm.p1, sm.p2, sm.p3⟩
 have k8 : KI8 w cr r := ⟨h2, sm.r1, sm.r2, sm.r3, sm.r4, gv⟩
 have k9 : KI9 w cf f := ⟨h3, sm.f0, sm.f1, sm.f2⟩
 have CH : Hid (∀ w0, Below w.heap.size w w0 → Calls Tryz.prog 15 #[.agg (Value.int .i64 K :: (cp ++ (cr ++ cf))).toArray] w0 fun e w' => e = .returned (.bool (kOk ⟨K, p, r, f⟩)) ∧ Below w0.heap.size w0 w') := CH0
 clear CH0 h1 h2 h3 sm gv
 have bw : Below w.heap.size w (w.alloc (.cells (Value.int .i64 K :: (cp ++ (cr ++ cf))).toArray 36)) := below_alloc w _
 have B0 : Cel (w.alloc (.cells (Value.int .i64 K :: (cp ++ (cr ++ cf))).toArray 36)) w.heap.size (Value.int .i64 K :: (cp ++ (cr ++ cf))) 36 := Cel.new w _ _
 cases hk : kOk ⟨K, p, r, f⟩ with
 | false =>
  rw [kZ_bad _ hk]
  rw [hk] at CH
  clear hk k7 k8 k9
  go_enter Tryz.func6, Tryz.ntmps6
  go_wp2_with (refine load_obj w.heap.size _ (by rfl) rfl B0 Tryz.underlying36 HL.out ?_)
  refine (CH.out _ bw).mono ?_
  rintro e w1 ⟨rfl, hb⟩
  replace B0 := B0.kept hb
  replace bw := bw.trans (hb.mono bw.size)
  clear hb
  obtain ⟨c0, p1, p2, p3⟩ := parts l4.out l9.out B0
  go_wp2
  go_ret
  exact ⟨rfl, bw⟩
 | true =>
  have o : kOn ⟨K, p, r, f⟩ = K ∧ (K = 1 ∨ K = 2 ∨ K = 3) := by
   have e : kOn ⟨K, p, r, f⟩ = K ∨ kOn ⟨K, p, r, f⟩ = 0 := by unfold kOn; split <;> simp
   by_cases o1 : kOn ⟨K, p, r, f⟩ = 1
   ·exact ⟨by omega, by omega⟩
   by_cases o2 : kOn ⟨K, p, r, f⟩ = 2
   ·exact ⟨by omega, by omega⟩
   by_cases o3 : kOn ⟨K, p, r, f⟩ = 3
   ·exact ⟨by omega, by omega⟩
   rw [(on_n o1 o2 o3).1] at hk
   cases hk
  rw [hk] at CH
  clear hk
  obtain ⟨o, q⟩ := o
  rcases q with rfl | rfl | rfl
  ·obtain ⟨e1, e2, e3, e4⟩ := on_p o
   rw [e4]
   have C : Hid (∀ w0, Below w.heap.size w w0 → Calls Tryz.prog 16 #[.agg cp.toArray] w0 fun e w' => e = .returned (.int .i64 (kZ7 p)) ∧ Below w0.heap.size w0 w') := fun w0 g => p7size_k cp p w0 (k7.keep g)
   clear e1 e2 e3 e4 k7 k8 k9 o
   generalize kZ7 p = Z at *
   go_enter Tryz.func6, Tryz.ntmps6
   go_wp2_with (refine load_obj w.heap.size _ (by rfl) rfl B0 Tryz.underlying36 HL.out ?_)
   refine (CH.out _ bw).mono ?_
   rintro e w1 ⟨rfl, hb⟩
   replace B0 := B0.kept hb
   replace bw := bw.trans (hb.mono bw.size)
   clear hb
   obtain ⟨c0, p1, p2, p3⟩ := parts l4.out l9.out B0
   go_wp2_with (refine load_part w.heap.size 1 cp (by rfl) rfl p1 Tryz.underlying28 LP.out ?_)
   refine (C.out _ bw).mono ?_
   rintro e w2 ⟨rfl, hb⟩
   replace bw := bw.trans (hb.mono bw.size)
   go_wp2
   go_ret
   exact ⟨rfl, bw⟩
  ·obtain ⟨e1, e2, e3, e4⟩ := on_r o
   rw [e4]
   have C : Hid (∀ w0, Below w.heap.size w w0 → Calls Tryz.prog 17 #[.agg cr.toArray] w0 fun e w' => e = .returned (.int .i64 (kZ8 r)) ∧ Below w0.heap.size w0 w') := fun w0 g => r8size_k cr r w0 (k8.keep g)
   clear e1 e2 e3 e4 k7 k8 k9 o
   generalize kZ8 r = Z at *
   go_enter Tryz.func6, Tryz.ntmps6
   go_wp2_with (refine load_obj w.heap.size _ (by rfl) rfl B0 Tryz.underlying36 HL.out ?_)
   refine (CH.out _ bw).mono ?_
   rintro e w1 ⟨rfl, hb⟩
   replace B0 := B0.kept hb
   replace bw := bw.trans (hb.mono bw.size)
   clear hb
   obtain ⟨c0, p1, p2, p3⟩ := parts l4.out l9.out B0
   go_wp2_with (refine load_part w.heap.size 5 cr (by rfl) rfl p2 Tryz.underlying32 LR.out ?_)
   refine (C.out _ bw).mono ?_
   rintro e w2 ⟨rfl, hb⟩
   replace bw := bw.trans (hb.mono bw.size)
   go_wp2
   go_ret
   exact ⟨rfl, bw⟩
  ·obtain ⟨e1, e2, e3, e4⟩ := on_f o
   rw [e4]
   have C : Hid (∀ w0, Below w.heap.size w w0 → Calls Tryz.prog 18 #[.agg cf.toArray] w0 fun e w' => e = .returned (.int .i64 (kZ9 f)) ∧ Below w0.heap.size w0 w') := fun w0 g => f9size_k cf f w0 (k9.keep g)
   clear e1 e2 e3 e4 k7 k8 k9 o
   generalize kZ9 f = Z at *
   go_enter Tryz.func6, Tryz.ntmps6
   go_wp2_with (refine load_obj w.heap.size _ (by rfl) rfl B0 Tryz.underlying36 HL.out ?_)
   refine (CH.out _ bw).mono ?_
   rintro e w1 ⟨rfl, hb⟩
   replace B0 := B0.kept hb
   replace bw := bw.trans (hb.mono bw.size)
   clear hb
   obtain ⟨c0, p1, p2, p3⟩ := parts l4.out l9.out B0
   go_wp2_with (refine load_part w.heap.size 14 cf (by rfl) rfl p3 Tryz.underlying34 LF.out ?_)
   refine (C.out _ bw).mono ?_
   rintro e w2 ⟨rfl, hb⟩
   replace bw := bw.trans (hb.mono bw.size)
   go_wp2
   go_ret
   exact ⟨rfl, bw⟩
end Go.Proofs.YtcaalcjcpddhaaaGreat

namespace Go.Proofs.YtcaalcjcpddhaaaGreat.Zz.Su
set_option linter.unusedVariables false

def lt : List Nat → List Nat → Bool
 | [], [] => false
 | [], _ :: _ => true
 | _ :: _, [] => false
 | a :: x, b :: y => decide (a < b) || (decide (a = b) && lt x y)
theorem lt_tr : ∀ x y z, lt x y = true → lt y z = true → lt x z = true
 | [], [], _, h, _ => by simp [lt] at h
 | [], _ :: _, [], _, h => by simp [lt] at h
 | [], _ :: _, _ :: _, _, _ => rfl
 | _ :: _, [], _, h, _ => by simp [lt] at h
 | _ :: _, _ :: _, [], _, h => by simp [lt] at h
 | a :: x, b :: y, c :: z, h1, h2 => by
  simp only [lt, Bool.or_eq_true, Bool.and_eq_true, decide_eq_true_eq] at *
  rcases h1 with h1 | ⟨rfl, h1⟩
  ·rcases h2 with h2 | ⟨rfl, h2⟩
   ·exact .inl (by omega)
   ·exact .inl h1
  ·rcases h2 with h2 | ⟨rfl, h2⟩
   ·exact .inl h2
   ·exact .inr ⟨rfl, lt_tr x y z h1 h2⟩
def ah (t : List Nat) (i j : Nat) : Bool := lt (t.drop i) (t.drop j)
theorem ah_tr {t : List Nat} {i j k : Nat} (h1 : ah t i j = true) (h2 : ah t j k = true) : ah t i k = true := lt_tr _ _ _ h1 h2
def So (t : List Nat) (l : List Nat) : Prop := l.Pairwise fun i j => ah t i j = true
theorem so_cut {t : List Nat} {l : List Nat} (hl : So t l) {i j x y : Nat} (hij : i ≤ j) (hx : l[i]? = some x) (hy : l[j]? = some y) (z : Nat) (h : ah t y z = true) : ah t x z = true := by
 by_cases e : i = j
 ·subst e
  rw [hx] at hy
  injection hy with hy
  rw [hy]
  exact h
 ·obtain ⟨hi, rfl⟩ := List.getElem?_eq_some_iff.1 hx
  obtain ⟨hj, rfl⟩ := List.getElem?_eq_some_iff.1 hy
  exact ah_tr (List.pairwise_iff_getElem.1 hl i j hi hj (by omega)) h
end Go.Proofs.YtcaalcjcpddhaaaGreat.Zz.Su
