/-
  The contract of the document's Build. The contracts of the document's none, nones and zero.
-/
import Derived.Test.YtcaalcjcpddhaaaGreatR20
import Derived.Test.YtcaalcjcpddhaaaGreatR22
import Derived.Test.YtcaalcjcpddhaaaGreatR14
import Derived.Deep.DeepCutAuto
namespace Go.Proofs.YtcaalcjcpddhaaaGreat
open Go.RowKit Num Bit
set_option linter.unusedVariables false
set_option linter.unusedSimpArgs false
set_option maxRecDepth 100000

set_option maxHeartbeats 8000000 in
theorem vbuild_k (k N : Int) (ao : Option Addr) (xs : List Nat) (cap : Nat) (w : World) (hK : I64 k) (hN : I64 N) (hx : Wd w ao xs) (hf : Fit xs) (hcap : xs.length ≤ cap) (hl : N ≤ 3000 ∧ xs.length ≤ 1048576) (GG : GV w) :
  Calls Tryz.prog 5 #[.int .i64 k, .agg #[.int .i64 N, .slice ao xs.length cap]] w fun e w' => ∃ cs : List Value, e = .returned (.tuple #[.agg cs.toArray, .int .i64 (kE k N xs)]) ∧ KI w' cs (kB k N xs) ∧ Below w.heap.size w w' ∧ NFV w.heap.size cs := by
 obtain ⟨W, hW⟩ : ∃ W, W = ((w.alloc (.cells #[.int .i64 N, .slice ao xs.length cap] 24)).alloc (.cells [Value.int .i64 0, .int .i64 0, .slice none 0 0, .slice none 0 0, .slice none 0 0, .int .i64 0, .int .i64 0, .int .i64 0, .int .i64 0, .slice none 0 0, .int .i64 0, .slice none 0 0, .slice none 0 0, .slice none 0 0, .int .i64 0, .int .i64 0, .int .i64 0, .int .i64 0, .int .i64 0, .slice none 0 0, .int .i64 0, .slice none 0 0].toArray 36)).alloc (.cells [Value.int .i64 0, .int .i64 0, .slice none 0 0, .slice none 0 0, .slice none 0 0, .int .i64 0, .int .i64 0, .int .i64 0, .int .i64 0, .slice none 0 0, .int .i64 0, .slice none 0 0, .slice none 0 0, .slice none 0 0, .int .i64 0, .int .i64 0, .int .i64 0, .int .i64 0, .int .i64 0, .slice none 0 0, .int .i64 0, .slice none 0 0].toArray 36) := ⟨_, rfl⟩
 have bw : Below w.heap.size w W := by rw [hW]; exact ((below_alloc w _).alloc (by simp) _).alloc (by simp; omega) _
 have B0 : Cel W w.heap.size [.int .i64 N, .slice ao xs.length cap] 24 := by rw [hW]; exact ((Cel.new w _ _).alloc _).alloc _
 have B4 : Cel W (w.heap.size + 1) [Value.int .i64 0, .int .i64 0, .slice none 0 0, .slice none 0 0, .slice none 0 0, .int .i64 0, .int .i64 0, .int .i64 0, .int .i64 0, .slice none 0 0, .int .i64 0, .slice none 0 0, .slice none 0 0, .slice none 0 0, .int .i64 0, .int .i64 0, .int .i64 0, .int .i64 0, .int .i64 0, .slice none 0 0, .int .i64 0, .slice none 0 0] 36 := by rw [hW]; exact (Cel.new2 w _ _ _).alloc _
 have B6 : Cel W (w.heap.size + 2) [Value.int .i64 0, .int .i64 0, .slice none 0 0, .slice none 0 0, .slice none 0 0, .int .i64 0, .int .i64 0, .int .i64 0, .int .i64 0, .slice none 0 0, .int .i64 0, .slice none 0 0, .slice none 0 0, .slice none 0 0, .int .i64 0, .int .i64 0, .int .i64 0, .int .i64 0, .int .i64 0, .slice none 0 0, .int .i64 0, .slice none 0 0] 36 := by rw [hW]; exact (Cel.new2 (w.alloc _) _ _ _).at (by simp)
 have hIV := Hid.mk8 info_v
 have H7 : Hid (∀ w0, Below w.heap.size w w0 → Calls Tryz.prog 12 #[.agg #[.int .i64 N, .slice ao xs.length cap]] w0 fun e w' => ∃ cs : List Value, e = .returned (.tuple #[.agg cs.toArray, .int .i64 (kE7 N xs)]) ∧ KI7 w' cs (kB7 N xs) ∧ NF w0.heap.size 2 cs ∧ Below w0.heap.size w0 w') := fun w0 h => p7build_k N ao xs cap w0 hN (hx.keep h) hf hcap hl.2
 have H8 : Hid (∀ w0, Below w.heap.size w w0 → Calls Tryz.prog 13 #[.agg #[.int .i64 N, .slice ao xs.length cap]] w0 fun e w' => ∃ cs : List Value, e = .returned (.tuple #[.agg cs.toArray, .int .i64 (kE8 N xs)]) ∧ KI8 w' cs (kB8 N xs) ∧ NF w0.heap.size 7 cs ∧ Below w0.heap.size w0 w') := fun w0 h => r8build_k N ao xs cap w0 (hx.keep h) hf (GG.kept h)
 have H9 : Hid (∀ w0, Below w.heap.size w w0 → Calls Tryz.prog 14 #[.agg #[.int .i64 N, .slice ao xs.length cap]] w0 fun e w' => ∃ cs : List Value, e = .returned (.tuple #[.agg cs.toArray, .int .i64 (kE9 N xs)]) ∧ KI9 w' cs (kB9 N xs) ∧ Below w0.heap.size w0 w') := fun w0 h => f9build_k N ao xs cap w0 (hx.keep h) hf hl.1
 subst hW
 by_cases q1 : k = 1
 ·subst q1
  have eE : kE 1 N xs = kE7 N xs := rfl
  rw [eE]
  by_cases z : kE7 N xs = 0
  ·have ew : kB 1 N xs = ⟨1, kB7 N xs, n8, n9⟩ := kB_p N xs z
   rw [z] at H7 ⊢
   clear eE z
   go_enter Tryz.func5, Tryz.ntmps5
   go_wp2_with (refine store_cel (w.heap.size + 2) _ _ rfl rfl B6 rfl hIV.out (by simp [Value.oneCell']) ?_)
   intro w1 B6 O1
   replace B0 := O1.cel B0 (by omega)
   replace B4 := O1.cel B4 (by omega)
   replace bw := bw.trans (O1.below (by omega))
   clear O1
   have r0 := B0.cell 0 rfl
   have r1 := B0.cell 1 rfl
   go_wp2_with fail
   refine (H7.out _ bw).mono ?_
   rintro e w2 ⟨cs, rfl, hP, hN2, hb⟩
   have sz := B6.lt
   have sz2 := hb.size
   replace B4 := B4.kept hb
   replace B6 := B6.kept hb
   replace bw := bw.trans (hb.mono bw.size)
   clear hb r0 r1 B0
   go_wp2_with (refine store_part (w.heap.size + 2) [Value.int .i64 1] [Value.int .i64 0, .slice none 0 0, .slice none 0 0, .slice none 0 0] ([Value.int .i64 0, .int .i64 0, .int .i64 0, .int .i64 0, .slice none 0 0, .int .i64 0, .slice none 0 0, .slice none 0 0, .slice none 0 0] ++ [Value.int .i64 0, .int .i64 0, .int .i64 0, .int .i64 0, .int .i64 0, .slice none 0 0, .int .i64 0, .slice none 0 0]) cs rfl rfl B6 hP.arg.four.symm hP.arg.len hP.arg.one ?_)
   intro w3 B7 O3
   have hQ := hP.only hN2 (by omega) B6 (nou_mk (z7arg w).arg.nou (z8a w).nou (z9arg w).arg.nou) O3
   replace B4 := O3.cel B4 (by omega)
   replace bw := bw.trans (O3.below (by omega))
   have B8 : Cel w3 (w.heap.size + 2) (Value.int .i64 1 :: (cs ++ ([Value.int .i64 0, .int .i64 0, .int .i64 0, .int .i64 0, .slice none 0 0, .int .i64 0, .slice none 0 0, .slice none 0 0, .slice none 0 0] ++ [Value.int .i64 0, .int .i64 0, .int .i64 0, .int .i64 0, .int .i64 0, .slice none 0 0, .int .i64 0, .slice none 0 0]))) 36 := B7
   have HL := Hid.mk8 (ka_mk hK hQ.arg (z8a w3) (z9arg w3).arg).len
   have H1 := Hid.mk8 (ka_mk hK hQ.arg (z8a w3) (z9arg w3).arg).one
   have H9 := Hid.mk8 (ka_mk hK hQ.arg (z8a w3) (z9arg w3).arg).nine
   have HNF : Hid (NFV w.heap.size (Value.int .i64 1 :: (cs ++ ([Value.int .i64 0, .int .i64 0, .int .i64 0, .int .i64 0, .slice none 0 0, .int .i64 0, .slice none 0 0, .slice none 0 0, .slice none 0 0] ++ [Value.int .i64 0, .int .i64 0, .int .i64 0, .int .i64 0, .int .i64 0, .slice none 0 0, .int .i64 0, .slice none 0 0])))) := ⟨(hN2.mono (by omega)).mid (pre := [Value.int .i64 1]) (by have := hQ.arg.four; omega) rfl, (show NF w.heap.size 7 [Value.int .i64 0, .int .i64 0, .int .i64 0, .int .i64 0, .slice none 0 0, .int .i64 0, .slice none 0 0, .slice none 0 0, .slice none 0 0] from nf_mk (fr0 _) (fr0 _)).mid (pre := Value.int .i64 1 :: cs) (by decide) (by have := hQ.arg.four; simp; omega)⟩
   have HQ := Hid.mk8 (And.intro hQ hN2)
   clear B7 O3 B6 hP hN2 hQ
   go_wp2_with (first | refine load_obj (w.heap.size + 2) _ (by rfl) rfl B8 Tryz.underlying36 HL.out ?_ | refine store_cel (w.heap.size + 1) _ _ rfl rfl B4 H9.out HL.out H1.out ?_)
   intro w9 B9 O9
   have HZ := Hid.mk8 (And.intro B9 (And.intro (ki_mk hK (HQ.out.1.only HQ.out.2 (by omega) B4 (nou_mk (z7arg w).arg.nou (z8a w).nou (z9arg w).arg.nou) O9) (z8arg w9 (GG.kept (bw.trans (O9.below (by omega))))) (z9arg w9)) (bw.trans (O9.below (by omega)))))
   clear B9 O9 B8 B4 HQ
   go_wp2
   (try simp only [Exit.inBlock, Exit.then])
   refine bodyPost_ret (result_cel rfl (w.heap.size + 1) _ rfl HZ.out.1 Tryz.underlying36 HL.out) rfl ⟨_, rfl, ?_, HZ.out.2.2, HNF.out⟩
   rw [ew]
   exact HZ.out.2.1
  ·have ew : kB 1 N xs = ⟨0, n7, n8, n9⟩ := kB_none 1 N xs (by rw [eE]; exact z)
   have zz : (kE7 N xs != 0) = true := by simp [z]
   clear eE z
   generalize kE7 N xs = E1 at *
   go_enter Tryz.func5, Tryz.ntmps5
   go_wp2_with (refine store_cel (w.heap.size + 2) _ _ rfl rfl B6 rfl hIV.out (by simp [Value.oneCell']) ?_)
   intro w1 B6 O1
   replace B0 := O1.cel B0 (by omega)
   replace B4 := O1.cel B4 (by omega)
   replace bw := bw.trans (O1.below (by omega))
   clear O1
   have r0 := B0.cell 0 rfl
   have r1 := B0.cell 1 rfl
   go_wp2_with fail
   refine (H7.out _ bw).mono ?_
   rintro e w2 ⟨cs, rfl, hP, hN2, hb⟩
   have sz := B6.lt
   have sz2 := hb.size
   replace B4 := B4.kept hb
   replace B6 := B6.kept hb
   replace bw := bw.trans (hb.mono bw.size)
   clear hb r0 r1 B0
   go_wp2_with (refine store_part (w.heap.size + 2) [Value.int .i64 1] [Value.int .i64 0, .slice none 0 0, .slice none 0 0, .slice none 0 0] ([Value.int .i64 0, .int .i64 0, .int .i64 0, .int .i64 0, .slice none 0 0, .int .i64 0, .slice none 0 0, .slice none 0 0, .slice none 0 0] ++ [Value.int .i64 0, .int .i64 0, .int .i64 0, .int .i64 0, .int .i64 0, .slice none 0 0, .int .i64 0, .slice none 0 0]) cs rfl rfl B6 hP.arg.four.symm hP.arg.len hP.arg.one ?_)
   intro w3 B7 O3
   replace B4 := O3.cel B4 (by omega)
   replace bw := bw.trans (O3.below (by omega))
   clear B7 O3 B6 hP hN2
   go_wp2_with (refine store_cel (w.heap.size + 1) _ _ rfl rfl B4 rfl hIV.out (by simp [Value.oneCell']) ?_)
   intro w9 B9 O9
   have HZ := Hid.mk8 (And.intro B9 (bw.trans (O9.below (by omega))))
   clear B9 O9
   go_wp2
   (try simp only [Exit.inBlock, Exit.then])
   refine bodyPost_ret (result_cel rfl (w.heap.size + 1) _ rfl HZ.out.1 Tryz.underlying36 hIV.out) rfl ⟨_, rfl, ?_, HZ.out.2, nf_mk (fr0 _) (fr0 _), nf_mk (fr0 _) (fr0 _)⟩
   rw [ew]
   exact ki_mk i64_0 (z7arg _) (z8arg _ (GG.kept HZ.out.2)) (z9arg _)
 by_cases q2 : k = 2
 ·subst q2
  have eE : kE 2 N xs = kE8 N xs := rfl
  rw [eE]
  by_cases z : kE8 N xs = 0
  ·have ew : kB 2 N xs = ⟨2, n7, kB8 N xs, n9⟩ := kB_r N xs z
   rw [z] at H8 ⊢
   clear eE z
   go_enter Tryz.func5, Tryz.ntmps5
   go_wp2_with (refine store_cel (w.heap.size + 2) _ _ rfl rfl B6 rfl hIV.out (by simp [Value.oneCell']) ?_)
   intro w1 B6 O1
   replace B0 := O1.cel B0 (by omega)
   replace B4 := O1.cel B4 (by omega)
   replace bw := bw.trans (O1.below (by omega))
   clear O1
   have r0 := B0.cell 0 rfl
   have r1 := B0.cell 1 rfl
   go_wp2_with fail
   refine (H8.out _ bw).mono ?_
   rintro e w2 ⟨cs, rfl, hP, hN2, hb⟩
   have sz := B6.lt
   have sz2 := hb.size
   replace B4 := B4.kept hb
   replace B6 := B6.kept hb
   replace bw := bw.trans (hb.mono bw.size)
   clear hb r0 r1 B0
   go_wp2_with (refine store_part (w.heap.size + 2) (Value.int .i64 2 :: [Value.int .i64 0, .slice none 0 0, .slice none 0 0, .slice none 0 0]) [Value.int .i64 0, .int .i64 0, .int .i64 0, .int .i64 0, .slice none 0 0, .int .i64 0, .slice none 0 0, .slice none 0 0, .slice none 0 0] [Value.int .i64 0, .int .i64 0, .int .i64 0, .int .i64 0, .int .i64 0, .slice none 0 0, .int .i64 0, .slice none 0 0] cs rfl rfl B6 hP.arg.nine hP.arg.len hP.arg.one ?_)
   intro w3 B7 O3
   have hQ := hP.only hN2 (by omega) B6 (nou_mk (z7arg w).arg.nou (z8a w).nou (z9arg w).arg.nou) O3 (GG.kept (bw.trans (O3.below (by omega))))
   replace B4 := O3.cel B4 (by omega)
   replace bw := bw.trans (O3.below (by omega))
   have B8 : Cel w3 (w.heap.size + 2) (Value.int .i64 2 :: ([Value.int .i64 0, .slice none 0 0, .slice none 0 0, .slice none 0 0] ++ (cs ++ [Value.int .i64 0, .int .i64 0, .int .i64 0, .int .i64 0, .int .i64 0, .slice none 0 0, .int .i64 0, .slice none 0 0]))) 36 := B7
   have HL := Hid.mk8 (ki_mk hK (z7arg w3) hQ (z9arg w3)).arg.len
   have H1 := Hid.mk8 (ki_mk hK (z7arg w3) hQ (z9arg w3)).arg.one
   have H9 := Hid.mk8 (ki_mk hK (z7arg w3) hQ (z9arg w3)).arg.nine
   have HNF : Hid (NFV w.heap.size (Value.int .i64 2 :: ([Value.int .i64 0, .slice none 0 0, .slice none 0 0, .slice none 0 0] ++ (cs ++ [Value.int .i64 0, .int .i64 0, .int .i64 0, .int .i64 0, .int .i64 0, .slice none 0 0, .int .i64 0, .slice none 0 0])))) := ⟨nf_mk (fr0 _) (fr0 _), (hN2.mono (by omega)).mid (pre := Value.int .i64 2 :: [Value.int .i64 0, .slice none 0 0, .slice none 0 0, .slice none 0 0]) (by have := hQ.arg.nine; omega) rfl⟩
   have HQ := Hid.mk8 (And.intro hQ hN2)
   clear B7 O3 B6 hP hN2 hQ
   go_wp2_with (first | refine load_obj (w.heap.size + 2) _ (by rfl) rfl B8 Tryz.underlying36 HL.out ?_ | refine store_cel (w.heap.size + 1) _ _ rfl rfl B4 H9.out HL.out H1.out ?_)
   intro w9 B9 O9
   have HZ := Hid.mk8 (And.intro B9 (And.intro (ki_mk hK (z7arg w9) (HQ.out.1.only HQ.out.2 (by omega) B4 (nou_mk (z7arg w).arg.nou (z8a w).nou (z9arg w).arg.nou) O9 (GG.kept (bw.trans (O9.below (by omega))))) (z9arg w9)) (bw.trans (O9.below (by omega)))))
   clear B9 O9 B8 B4 HQ
   go_wp2
   (try simp only [Exit.inBlock, Exit.then])
   refine bodyPost_ret (result_cel rfl (w.heap.size + 1) _ rfl HZ.out.1 Tryz.underlying36 HL.out) rfl ⟨_, rfl, ?_, HZ.out.2.2, HNF.out⟩
   rw [ew]
   exact HZ.out.2.1
  ·have ew : kB 2 N xs = ⟨0, n7, n8, n9⟩ := kB_none 2 N xs (by rw [eE]; exact z)
   have zz : (kE8 N xs != 0) = true := by simp [z]
   clear eE z
   generalize kE8 N xs = E1 at *
   go_enter Tryz.func5, Tryz.ntmps5
   go_wp2_with (refine store_cel (w.heap.size + 2) _ _ rfl rfl B6 rfl hIV.out (by simp [Value.oneCell']) ?_)
   intro w1 B6 O1
   replace B0 := O1.cel B0 (by omega)
   replace B4 := O1.cel B4 (by omega)
   replace bw := bw.trans (O1.below (by omega))
   clear O1
   have r0 := B0.cell 0 rfl
   have r1 := B0.cell 1 rfl
   go_wp2_with fail
   refine (H8.out _ bw).mono ?_
   rintro e w2 ⟨cs, rfl, hP, hN2, hb⟩
   have sz := B6.lt
   have sz2 := hb.size
   replace B4 := B4.kept hb
   replace B6 := B6.kept hb
   replace bw := bw.trans (hb.mono bw.size)
   clear hb r0 r1 B0
   go_wp2_with (refine store_part (w.heap.size + 2) (Value.int .i64 2 :: [Value.int .i64 0, .slice none 0 0, .slice none 0 0, .slice none 0 0]) [Value.int .i64 0, .int .i64 0, .int .i64 0, .int .i64 0, .slice none 0 0, .int .i64 0, .slice none 0 0, .slice none 0 0, .slice none 0 0] [Value.int .i64 0, .int .i64 0, .int .i64 0, .int .i64 0, .int .i64 0, .slice none 0 0, .int .i64 0, .slice none 0 0] cs rfl rfl B6 hP.arg.nine hP.arg.len hP.arg.one ?_)
   intro w3 B7 O3
   replace B4 := O3.cel B4 (by omega)
   replace bw := bw.trans (O3.below (by omega))
   clear B7 O3 B6 hP hN2
   go_wp2_with (refine store_cel (w.heap.size + 1) _ _ rfl rfl B4 rfl hIV.out (by simp [Value.oneCell']) ?_)
   intro w9 B9 O9
   have HZ := Hid.mk8 (And.intro B9 (bw.trans (O9.below (by omega))))
   clear B9 O9
   go_wp2
   (try simp only [Exit.inBlock, Exit.then])
   refine bodyPost_ret (result_cel rfl (w.heap.size + 1) _ rfl HZ.out.1 Tryz.underlying36 hIV.out) rfl ⟨_, rfl, ?_, HZ.out.2, nf_mk (fr0 _) (fr0 _), nf_mk (fr0 _) (fr0 _)⟩
   rw [ew]
   exact ki_mk i64_0 (z7arg _) (z8arg _ (GG.kept HZ.out.2)) (z9arg _)
 by_cases q3 : k = 3
 ·subst q3
  have eE : kE 3 N xs = kE9 N xs := rfl
  rw [eE]
  by_cases z : kE9 N xs = 0
  ·have ew : kB 3 N xs = ⟨3, n7, n8, kB9 N xs⟩ := kB_f N xs z
   rw [z] at H9 ⊢
   clear eE z
   go_enter Tryz.func5, Tryz.ntmps5
   go_wp2_with (refine store_cel (w.heap.size + 2) _ _ rfl rfl B6 rfl hIV.out (by simp [Value.oneCell']) ?_)
   intro w1 B6 O1
   replace B0 := O1.cel B0 (by omega)
   replace B4 := O1.cel B4 (by omega)
   replace bw := bw.trans (O1.below (by omega))
   clear O1
   have r0 := B0.cell 0 rfl
   have r1 := B0.cell 1 rfl
   go_wp2_with fail
   refine (H9.out _ bw).mono ?_
   rintro e w2 ⟨cs, rfl, hP, hb⟩
   have sz := B6.lt
   have sz2 := hb.size
   replace B4 := B4.kept hb
   replace B6 := B6.kept hb
   replace bw := bw.trans (hb.mono bw.size)
   clear hb r0 r1 B0
   go_wp2_with (refine store_part (w.heap.size + 2) (Value.int .i64 3 :: ([Value.int .i64 0, .slice none 0 0, .slice none 0 0, .slice none 0 0] ++ [Value.int .i64 0, .int .i64 0, .int .i64 0, .int .i64 0, .slice none 0 0, .int .i64 0, .slice none 0 0, .slice none 0 0, .slice none 0 0])) [Value.int .i64 0, .int .i64 0, .int .i64 0, .int .i64 0, .int .i64 0, .slice none 0 0, .int .i64 0, .slice none 0 0] [] cs rfl rfl B6 hP.arg.nine hP.arg.len hP.arg.one ?_)
   intro w3 B7 O3
   have hQ := hP.only B6 (nou_mk (z7arg w).arg.nou (z8a w).nou (z9arg w).arg.nou) O3
   replace B4 := O3.cel B4 (by omega)
   replace bw := bw.trans (O3.below (by omega))
   have B8 : Cel w3 (w.heap.size + 2) (Value.int .i64 3 :: ([Value.int .i64 0, .slice none 0 0, .slice none 0 0, .slice none 0 0] ++ ([Value.int .i64 0, .int .i64 0, .int .i64 0, .int .i64 0, .slice none 0 0, .int .i64 0, .slice none 0 0, .slice none 0 0, .slice none 0 0] ++ cs))) 36 := by simpa using B7
   have HL := Hid.mk8 (ka_mk hK (z7arg w3).arg (z8a w3) hQ.arg).len
   have H1 := Hid.mk8 (ka_mk hK (z7arg w3).arg (z8a w3) hQ.arg).one
   have H9 := Hid.mk8 (ka_mk hK (z7arg w3).arg (z8a w3) hQ.arg).nine
   have HNF : Hid (NFV w.heap.size (Value.int .i64 3 :: ([Value.int .i64 0, .slice none 0 0, .slice none 0 0, .slice none 0 0] ++ ([Value.int .i64 0, .int .i64 0, .int .i64 0, .int .i64 0, .slice none 0 0, .int .i64 0, .slice none 0 0, .slice none 0 0, .slice none 0 0] ++ cs)))) := ⟨nf_mk (fr0 _) (fr0 _), nf_mk (fr0 _) (fr0 _)⟩
   have HQ := Hid.mk8 (And.intro hQ trivial)
   clear B7 O3 B6 hP hQ
   go_wp2_with (first | refine load_obj (w.heap.size + 2) _ (by rfl) rfl B8 Tryz.underlying36 HL.out ?_ | refine store_cel (w.heap.size + 1) _ _ rfl rfl B4 H9.out HL.out H1.out ?_)
   intro w9 B9 O9
   have HZ := Hid.mk8 (And.intro B9 (And.intro (ki_mk hK (z7arg w9) (z8arg w9 (GG.kept (bw.trans (O9.below (by omega))))) (HQ.out.1.only B4 (nou_mk (z7arg w).arg.nou (z8a w).nou (z9arg w).arg.nou) O9)) (bw.trans (O9.below (by omega)))))
   clear B9 O9 B8 B4 HQ
   go_wp2
   (try simp only [Exit.inBlock, Exit.then])
   refine bodyPost_ret (result_cel rfl (w.heap.size + 1) _ rfl HZ.out.1 Tryz.underlying36 HL.out) rfl ⟨_, rfl, ?_, HZ.out.2.2, HNF.out⟩
   rw [ew]
   exact HZ.out.2.1
  ·have ew : kB 3 N xs = ⟨0, n7, n8, n9⟩ := kB_none 3 N xs (by rw [eE]; exact z)
   have zz : (kE9 N xs != 0) = true := by simp [z]
   clear eE z
   generalize kE9 N xs = E1 at *
   go_enter Tryz.func5, Tryz.ntmps5
   go_wp2_with (refine store_cel (w.heap.size + 2) _ _ rfl rfl B6 rfl hIV.out (by simp [Value.oneCell']) ?_)
   intro w1 B6 O1
   replace B0 := O1.cel B0 (by omega)
   replace B4 := O1.cel B4 (by omega)
   replace bw := bw.trans (O1.below (by omega))
   clear O1
   have r0 := B0.cell 0 rfl
   have r1 := B0.cell 1 rfl
   go_wp2_with fail
   refine (H9.out _ bw).mono ?_
   rintro e w2 ⟨cs, rfl, hP, hb⟩
   have sz := B6.lt
   have sz2 := hb.size
   replace B4 := B4.kept hb
   replace B6 := B6.kept hb
   replace bw := bw.trans (hb.mono bw.size)
   clear hb r0 r1 B0
   go_wp2_with (refine store_part (w.heap.size + 2) (Value.int .i64 3 :: ([Value.int .i64 0, .slice none 0 0, .slice none 0 0, .slice none 0 0] ++ [Value.int .i64 0, .int .i64 0, .int .i64 0, .int .i64 0, .slice none 0 0, .int .i64 0, .slice none 0 0, .slice none 0 0, .slice none 0 0])) [Value.int .i64 0, .int .i64 0, .int .i64 0, .int .i64 0, .int .i64 0, .slice none 0 0, .int .i64 0, .slice none 0 0] [] cs rfl rfl B6 hP.arg.nine hP.arg.len hP.arg.one ?_)
   intro w3 B7 O3
   replace B4 := O3.cel B4 (by omega)
   replace bw := bw.trans (O3.below (by omega))
   clear B7 O3 B6 hP
   go_wp2_with (refine store_cel (w.heap.size + 1) _ _ rfl rfl B4 rfl hIV.out (by simp [Value.oneCell']) ?_)
   intro w9 B9 O9
   have HZ := Hid.mk8 (And.intro B9 (bw.trans (O9.below (by omega))))
   clear B9 O9
   go_wp2
   (try simp only [Exit.inBlock, Exit.then])
   refine bodyPost_ret (result_cel rfl (w.heap.size + 1) _ rfl HZ.out.1 Tryz.underlying36 hIV.out) rfl ⟨_, rfl, ?_, HZ.out.2, nf_mk (fr0 _) (fr0 _), nf_mk (fr0 _) (fr0 _)⟩
   rw [ew]
   exact ki_mk i64_0 (z7arg _) (z8arg _ (GG.kept HZ.out.2)) (z9arg _)
 have eE : kE k N xs = 5 := by unfold kE; rw [if_neg q1, if_neg q2, if_neg q3]
 have ew : kB k N xs = ⟨0, n7, n8, n9⟩ := kB_none k N xs (by rw [eE]; decide)
 rw [eE]
 have d1 : (k == 1) = false := by simp [q1]
 have d2 : (k == 2) = false := by simp [q2]
 have d3 : (k == 3) = false := by simp [q3]
 clear eE
 go_enter Tryz.func5, Tryz.ntmps5
 go_wp2_with (refine store_cel (w.heap.size + 2) _ _ rfl rfl B6 rfl hIV.out (by simp [Value.oneCell']) ?_)
 intro w1 B6 O1
 replace B0 := O1.cel B0 (by omega)
 replace B4 := O1.cel B4 (by omega)
 replace bw := bw.trans (O1.below (by omega))
 clear O1
 have r0 := B0.cell 0 rfl
 have r1 := B0.cell 1 rfl
 go_wp2_with (refine store_cel (w.heap.size + 1) _ _ rfl rfl B4 rfl hIV.out (by simp [Value.oneCell']) ?_)
 intro w9 B9 O9
 have HZ := Hid.mk8 (And.intro B9 (bw.trans (O9.below (by omega))))
 clear B9 O9
 go_wp2
 (try simp only [Exit.inBlock, Exit.then])
 refine bodyPost_ret (result_cel rfl (w.heap.size + 1) _ rfl HZ.out.1 Tryz.underlying36 hIV.out) rfl ⟨_, rfl, ?_, HZ.out.2, nf_mk (fr0 _) (fr0 _), nf_mk (fr0 _) (fr0 _)⟩
 rw [ew]
 exact ki_mk i64_0 (z7arg _) (z8arg _ (GG.kept HZ.out.2)) (z9arg _)
end Go.Proofs.YtcaalcjcpddhaaaGreat

namespace Go.Proofs.YtcaalcjcpddhaaaGreat
open Go.RowKit Num Bit
set_option linter.unusedVariables false
set_option linter.unusedSimpArgs false
set_option maxRecDepth 100000

theorem norw1 (N : Int) (n : Nat) : norw [(N, n)] = (decide (N = 0) && decide ((n : Int) = 0)) := by simp [norw]
theorem norw2 (p q : Int × Nat) : norw [p, q] = (norw [p] && norw [q]) := by simp [norw]
set_option maxHeartbeats 1000000 in
theorem none_c (N : Int) (ao : Option Addr) (n cap : Nat) (w : World) :
  Calls Tryz.prog 87 #[.agg #[.int .i64 N, .slice ao n cap]] w fun e w' => e = .returned (.bool (norw [(N, n)])) ∧ Below w.heap.size w w' := by
 rw [norw1]
 by_cases q : N = 0
 ·subst q
  by_cases r : (n : Int) = 0
  ·have d : ((n : Int) == 0) = true := by simp only [r]; rfl
   rw [decide_eq_true r]
   go_enter Tryz.func87, Tryz.ntmps87
   go_wp2
   go_ret
   exact ⟨rfl, below_alloc _ _⟩
  ·have d : ((n : Int) == 0) = false := beq_eq_false_iff_ne.2 r
   rw [decide_eq_false r]
   go_enter Tryz.func87, Tryz.ntmps87
   go_wp2
   go_ret
   exact ⟨rfl, below_alloc _ _⟩
 ·have d : (N == 0) = false := beq_eq_false_iff_ne.2 q
  rw [decide_eq_false q]
  go_enter Tryz.func87, Tryz.ntmps87
  go_wp2
  go_ret
  exact ⟨rfl, below_alloc _ _⟩
def nons (k V M : Int) (n : Nat) : Bool := decide (k = 0) && (decide (V = 0) && norw [(M, n)])
set_option maxHeartbeats 1000000 in
theorem nones_c (k V M : Int) (ao : Option Addr) (n cap : Nat) (w : World) :
  Calls Tryz.prog 88 #[.agg #[.int .i64 k, .int .i64 V, .int .i64 M, .slice ao n cap]] w fun e w' => e = .returned (.bool (nons k V M n)) ∧ Below w.heap.size w w' := by
 unfold nons
 by_cases q : k = 0
 ·subst q
  by_cases r : V = 0
  ·subst r
   have C := none_c M ao n cap
   generalize norw [(M, n)] = R at *
   go_enter Tryz.func88, Tryz.ntmps88
   go_wp2_with fail
   refine (C _).mono ?_
   rintro e w1 ⟨rfl, hb⟩
   have bw := (below_alloc w _).trans (hb.mono (by simp))
   go_wp2
   go_ret
   exact ⟨by cases R <;> rfl, bw⟩
  ·have d : (V == 0) = false := beq_eq_false_iff_ne.2 r
   rw [decide_eq_false r]
   go_enter Tryz.func88, Tryz.ntmps88
   go_wp2
   go_ret
   exact ⟨rfl, below_alloc _ _⟩
 ·have d : (k == 0) = false := beq_eq_false_iff_ne.2 q
  rw [decide_eq_false q]
  go_enter Tryz.func88, Tryz.ntmps88
  go_wp2
  go_ret
  exact ⟨rfl, below_alloc _ _⟩
set_option maxHeartbeats 8000000 in
theorem zero_c (cs : List Value) (a : RA) (w : World) (h : KI w cs a) :
  Calls Tryz.prog 68 #[.agg cs.toArray] w fun e w' => e = .returned (.bool (kZs a)) ∧ Below w.heap.size w w' := by
 obtain ⟨⟨cp, cr, cf, rfl, hK, h1, h2, h3⟩, sm⟩ := h
 have s1 := sm.p2
 have s2 := sm.p3
 have s3 := sm.r3
 have s4 := sm.r4
 clear sm
 obtain ⟨K, ⟨N, xs, S, T⟩, ⟨N8, k8, V8, M8, x8, L8, y8, S8, T8⟩, ⟨N9, M9, k9, V9, L9, x9, H9, y9⟩⟩ := a
 dsimp only at *
 obtain ⟨ao, cap, so, sc, tO, tc, rfl, -⟩ := h1
 obtain ⟨a8, e8, q8, d8, s8, f8, t8, g8, rfl, -⟩ := h2
 obtain ⟨a9, e9, q9, d9, rfl, -⟩ := h3
 dsimp only at *
 obtain ⟨Z, hZ⟩ : ∃ Z, Hid (Z = kZs ⟨K, ⟨N, xs, S, T⟩, ⟨N8, k8, V8, M8, x8, L8, y8, S8, T8⟩, ⟨N9, M9, k9, V9, L9, x9, H9, y9⟩⟩) := ⟨_, rfl⟩
 obtain ⟨A, hA⟩ : ∃ A, Hid (A = z7 ⟨N, xs, S, T⟩) := ⟨_, rfl⟩
 obtain ⟨B, hB⟩ : ∃ B, Hid (B = z8 ⟨N8, k8, V8, M8, x8, L8, y8, S8, T8⟩) := ⟨_, rfl⟩
 obtain ⟨C, hC⟩ : ∃ C, Hid (C = z9 ⟨N9, M9, k9, V9, L9, x9, H9, y9⟩) := ⟨_, rfl⟩
 have hZ2 : Hid (Z = ((decide (K = 1) || A) && ((decide (K = 2) || B) && (decide (K = 3) || C)))) := by
  show Z = _
  rw [hZ.out, hA.out, hB.out, hC.out]
  rfl
 rw [← hZ.out]
 have EA : Hid (A = (norw [(N, xs.length)] && decide ((S.length : Int) + (T.length : Int) = 0))) := by
  show A = _
  rw [hA.out]
  unfold z7
  dsimp only
  congr 1
  rw [← Bool.decide_and]
  congr 1
  simp only [eq_iff_iff]
  omega
 have EB : Hid (B = (decide (N8 = 0) && (nons k8 V8 M8 x8.length && (norw [(L8, y8.length)] && decide ((S8.length : Int) + (T8.length : Int) = 0))))) := by
  show B = _
  rw [hB.out]
  unfold z8 nons
  dsimp only
  rw [norw2, show decide ((S8.length : Int) + (T8.length : Int) = 0) = (decide ((S8.length : Int) = 0) && decide ((T8.length : Int) = 0)) by rw [← Bool.decide_and]; congr 1; simp only [eq_iff_iff]; omega]
  simp only [Bool.and_assoc]
 have EC : Hid (C = (decide (N9 = 0) && (decide (M9 = 0) && (nons k9 V9 L9 x9.length && norw [(H9, y9.length)])))) := by
  show C = _
  rw [hC.out]
  unfold z9 nons
  dsimp only
  rw [norw2]
  simp only [Bool.and_assoc]
 clear hZ hA hB hC
 have wS : IntKind.i64.wrap ((S.length : Int) + (T.length : Int)) = (S.length : Int) + (T.length : Int) := by rw [IntKind.wrap_i64]; omega
 have wS8 : IntKind.i64.wrap ((S8.length : Int) + (T8.length : Int)) = (S8.length : Int) + (T8.length : Int) := by rw [IntKind.wrap_i64]; omega
 have N1 : Hid (∀ w0 : World, Calls Tryz.prog 87 #[.agg #[.int .i64 N, .slice ao xs.length cap]] w0 fun e w' => e = .returned (.bool (norw [(N, xs.length)])) ∧ Below w0.heap.size w0 w') := fun w0 => none_c N ao xs.length cap w0
 have N2 : Hid (∀ w0 : World, Calls Tryz.prog 88 #[.agg #[.int .i64 k8, .int .i64 V8, .int .i64 M8, .slice a8 x8.length e8]] w0 fun e w' => e = .returned (.bool (nons k8 V8 M8 x8.length)) ∧ Below w0.heap.size w0 w') := fun w0 => nones_c k8 V8 M8 a8 x8.length e8 w0
 have N3 : Hid (∀ w0 : World, Calls Tryz.prog 87 #[.agg #[.int .i64 L8, .slice q8 y8.length d8]] w0 fun e w' => e = .returned (.bool (norw [(L8, y8.length)])) ∧ Below w0.heap.size w0 w') := fun w0 => none_c L8 q8 y8.length d8 w0
 have N4 : Hid (∀ w0 : World, Calls Tryz.prog 88 #[.agg #[.int .i64 k9, .int .i64 V9, .int .i64 L9, .slice a9 x9.length e9]] w0 fun e w' => e = .returned (.bool (nons k9 V9 L9 x9.length)) ∧ Below w0.heap.size w0 w') := fun w0 => nones_c k9 V9 L9 a9 x9.length e9 w0
 have N5 : Hid (∀ w0 : World, Calls Tryz.prog 87 #[.agg #[.int .i64 H9, .slice q9 y9.length d9]] w0 fun e w' => e = .returned (.bool (norw [(H9, y9.length)])) ∧ Below w0.heap.size w0 w') := fun w0 => none_c H9 q9 y9.length d9 w0
 have B0 : Cel (w.alloc (.cells ([.int .i64 K, .int .i64 N, .slice ao xs.length cap, .slice so S.length sc, .slice tO T.length tc, .int .i64 N8, .int .i64 k8, .int .i64 V8, .int .i64 M8, .slice a8 x8.length e8, .int .i64 L8, .slice q8 y8.length d8, .slice s8 S8.length f8, .slice t8 T8.length g8, .int .i64 N9, .int .i64 M9, .int .i64 k9, .int .i64 V9, .int .i64 L9, .slice a9 x9.length e9, .int .i64 H9, .slice q9 y9.length d9] : List Value).toArray 36)) w.heap.size [.int .i64 K, .int .i64 N, .slice ao xs.length cap, .slice so S.length sc, .slice tO T.length tc, .int .i64 N8, .int .i64 k8, .int .i64 V8, .int .i64 M8, .slice a8 x8.length e8, .int .i64 L8, .slice q8 y8.length d8, .slice s8 S8.length f8, .slice t8 T8.length g8, .int .i64 N9, .int .i64 M9, .int .i64 k9, .int .i64 V9, .int .i64 L9, .slice a9 x9.length e9, .int .i64 H9, .slice q9 y9.length d9] 36 := Cel.new w _ _
 have bw : Below w.heap.size w (w.alloc (.cells ([.int .i64 K, .int .i64 N, .slice ao xs.length cap, .slice so S.length sc, .slice tO T.length tc, .int .i64 N8, .int .i64 k8, .int .i64 V8, .int .i64 M8, .slice a8 x8.length e8, .int .i64 L8, .slice q8 y8.length d8, .slice s8 S8.length f8, .slice t8 T8.length g8, .int .i64 N9, .int .i64 M9, .int .i64 k9, .int .i64 V9, .int .i64 L9, .slice a9 x9.length e9, .int .i64 H9, .slice q9 y9.length d9] : List Value).toArray 36)) := below_alloc w _
 generalize hsum : (S.length : Int) + (T.length : Int) = s7 at *
 generalize hsum8 : (S8.length : Int) + (T8.length : Int) = s78 at *
 go_enter Tryz.func68, Tryz.ntmps68
 go_upto_region 1 with fail
 go_cut [3] (fun s3 wx => s3 = .bool A ∧ Cel wx w.heap.size [.int .i64 K, .int .i64 N, .slice ao xs.length cap, .slice so S.length sc, .slice tO T.length tc, .int .i64 N8, .int .i64 k8, .int .i64 V8, .int .i64 M8, .slice a8 x8.length e8, .int .i64 L8, .slice q8 y8.length d8, .slice s8 S8.length f8, .slice t8 T8.length g8, .int .i64 N9, .int .i64 M9, .int .i64 k9, .int .i64 V9, .int .i64 L9, .slice a9 x9.length e9, .int .i64 H9, .slice q9 y9.length d9] 36 ∧ Below w.heap.size w wx)
 case first =>
  have c1 := B0.cell 1 rfl
  have c2 := B0.cell 2 rfl
  have c3 := B0.cell 3 rfl
  have c4 := B0.cell 4 rfl
  cases hn : norw [(N, xs.length)] with
  | false =>
   rw [hn] at N1
   go_wp2_with fail
   refine (N1.out _).mono ?_
   rintro e w1 ⟨rfl, hb⟩
   replace B0 := B0.kept hb
   replace bw := bw.trans (hb.mono bw.size)
   clear hb c1 c2 c3 c4
   have c1 := B0.cell 1 rfl
   have c2 := B0.cell 2 rfl
   have c3 := B0.cell 3 rfl
   have c4 := B0.cell 4 rfl
   go_wp2_with fail
   go_meet
   refine ⟨?_, B0, bw⟩
   rw [EA.out]
   simp [hn]
  | true =>
   rw [hn] at N1
   by_cases q : s7 = 0
   ·have d : (s7 == 0) = true := by simp [q]
    go_wp2_with fail
    refine (N1.out _).mono ?_
    rintro e w1 ⟨rfl, hb⟩
    replace B0 := B0.kept hb
    replace bw := bw.trans (hb.mono bw.size)
    clear hb c1 c2 c3 c4
    have c1 := B0.cell 1 rfl
    have c2 := B0.cell 2 rfl
    have c3 := B0.cell 3 rfl
    have c4 := B0.cell 4 rfl
    go_wp2_with fail
    go_meet
    refine ⟨?_, B0, bw⟩
    rw [EA.out]
    simp [hn, q]
   ·have d : (s7 == 0) = false := by simp [q]
    go_wp2_with fail
    refine (N1.out _).mono ?_
    rintro e w1 ⟨rfl, hb⟩
    replace B0 := B0.kept hb
    replace bw := bw.trans (hb.mono bw.size)
    clear hb c1 c2 c3 c4
    have c1 := B0.cell 1 rfl
    have c2 := B0.cell 2 rfl
    have c3 := B0.cell 3 rfl
    have c4 := B0.cell 4 rfl
    go_wp2_with fail
    go_meet
    refine ⟨?_, B0, bw⟩
    rw [EA.out]
    simp [hn, q]
 case rest =>
 obtain ⟨rfl, B1, bw1⟩ := hcut
 clear N1 EA B0 bw wS hsum
 have B0 := B1
 have bw := bw1
 clear B1 bw1
 go_upto_region 2 with fail
 go_cut [4] (fun s4 wx => s4 = .bool B ∧ Cel wx w.heap.size [.int .i64 K, .int .i64 N, .slice ao xs.length cap, .slice so S.length sc, .slice tO T.length tc, .int .i64 N8, .int .i64 k8, .int .i64 V8, .int .i64 M8, .slice a8 x8.length e8, .int .i64 L8, .slice q8 y8.length d8, .slice s8 S8.length f8, .slice t8 T8.length g8, .int .i64 N9, .int .i64 M9, .int .i64 k9, .int .i64 V9, .int .i64 L9, .slice a9 x9.length e9, .int .i64 H9, .slice q9 y9.length d9] 36 ∧ Below w.heap.size w wx)
 case first =>
  have c5 := B0.cell 5 rfl
  have c6 := B0.cell 6 rfl
  have c7 := B0.cell 7 rfl
  have c8 := B0.cell 8 rfl
  have c9 := B0.cell 9 rfl
  have c10 := B0.cell 10 rfl
  have c11 := B0.cell 11 rfl
  have c12 := B0.cell 12 rfl
  have c13 := B0.cell 13 rfl
  by_cases q : N8 = 0
  rotate_left
  ·have d : (N8 == 0) = false := by simp [q]
   go_wp2_with fail
   go_meet
   refine ⟨?_, B0, bw⟩
   rw [EB.out]
   simp [q]
  subst q
  cases hn : nons k8 V8 M8 x8.length with
  | false =>
   rw [hn] at N2
   go_wp2_with fail
   refine (N2.out _).mono ?_
   rintro e w1 ⟨rfl, hb⟩
   replace B0 := B0.kept hb
   replace bw := bw.trans (hb.mono bw.size)
   clear hb c5 c6 c7 c8 c9 c10 c11 c12 c13
   have c5 := B0.cell 5 rfl
   have c6 := B0.cell 6 rfl
   have c7 := B0.cell 7 rfl
   have c8 := B0.cell 8 rfl
   have c9 := B0.cell 9 rfl
   have c10 := B0.cell 10 rfl
   have c11 := B0.cell 11 rfl
   have c12 := B0.cell 12 rfl
   have c13 := B0.cell 13 rfl
   go_wp2_with fail
   go_meet
   refine ⟨?_, B0, bw⟩
   rw [EB.out]
   simp [hn]
  | true =>
   rw [hn] at N2
   cases hm : norw [(L8, y8.length)] with
   | false =>
    rw [hm] at N3
    go_wp2_with fail
    refine (N2.out _).mono ?_
    rintro e w1 ⟨rfl, hb⟩
    replace B0 := B0.kept hb
    replace bw := bw.trans (hb.mono bw.size)
    clear hb c5 c6 c7 c8 c9 c10 c11 c12 c13
    have c5 := B0.cell 5 rfl
    have c6 := B0.cell 6 rfl
    have c7 := B0.cell 7 rfl
    have c8 := B0.cell 8 rfl
    have c9 := B0.cell 9 rfl
    have c10 := B0.cell 10 rfl
    have c11 := B0.cell 11 rfl
    have c12 := B0.cell 12 rfl
    have c13 := B0.cell 13 rfl
    go_wp2_with fail
    refine (N3.out _).mono ?_
    rintro e w2 ⟨rfl, hb⟩
    replace B0 := B0.kept hb
    replace bw := bw.trans (hb.mono bw.size)
    clear hb c5 c6 c7 c8 c9 c10 c11 c12 c13
    have c5 := B0.cell 5 rfl
    have c6 := B0.cell 6 rfl
    have c7 := B0.cell 7 rfl
    have c8 := B0.cell 8 rfl
    have c9 := B0.cell 9 rfl
    have c10 := B0.cell 10 rfl
    have c11 := B0.cell 11 rfl
    have c12 := B0.cell 12 rfl
    have c13 := B0.cell 13 rfl
    go_wp2_with fail
    go_meet
    refine ⟨?_, B0, bw⟩
    rw [EB.out]
    simp [hn, hm]
   | true =>
    rw [hm] at N3
    by_cases q : s78 = 0
    ·have d : (s78 == 0) = true := by simp [q]
     go_wp2_with fail
     refine (N2.out _).mono ?_
     rintro e w1 ⟨rfl, hb⟩
     replace B0 := B0.kept hb
     replace bw := bw.trans (hb.mono bw.size)
     clear hb c5 c6 c7 c8 c9 c10 c11 c12 c13
     have c5 := B0.cell 5 rfl
     have c6 := B0.cell 6 rfl
     have c7 := B0.cell 7 rfl
     have c8 := B0.cell 8 rfl
     have c9 := B0.cell 9 rfl
     have c10 := B0.cell 10 rfl
     have c11 := B0.cell 11 rfl
     have c12 := B0.cell 12 rfl
     have c13 := B0.cell 13 rfl
     go_wp2_with fail
     refine (N3.out _).mono ?_
     rintro e w2 ⟨rfl, hb⟩
     replace B0 := B0.kept hb
     replace bw := bw.trans (hb.mono bw.size)
     clear hb c5 c6 c7 c8 c9 c10 c11 c12 c13
     have c5 := B0.cell 5 rfl
     have c6 := B0.cell 6 rfl
     have c7 := B0.cell 7 rfl
     have c8 := B0.cell 8 rfl
     have c9 := B0.cell 9 rfl
     have c10 := B0.cell 10 rfl
     have c11 := B0.cell 11 rfl
     have c12 := B0.cell 12 rfl
     have c13 := B0.cell 13 rfl
     go_wp2_with fail
     go_meet
     refine ⟨?_, B0, bw⟩
     rw [EB.out]
     simp [hn, hm, q]
    ·have d : (s78 == 0) = false := by simp [q]
     go_wp2_with fail
     refine (N2.out _).mono ?_
     rintro e w1 ⟨rfl, hb⟩
     replace B0 := B0.kept hb
     replace bw := bw.trans (hb.mono bw.size)
     clear hb c5 c6 c7 c8 c9 c10 c11 c12 c13
     have c5 := B0.cell 5 rfl
     have c6 := B0.cell 6 rfl
     have c7 := B0.cell 7 rfl
     have c8 := B0.cell 8 rfl
     have c9 := B0.cell 9 rfl
     have c10 := B0.cell 10 rfl
     have c11 := B0.cell 11 rfl
     have c12 := B0.cell 12 rfl
     have c13 := B0.cell 13 rfl
     go_wp2_with fail
     refine (N3.out _).mono ?_
     rintro e w2 ⟨rfl, hb⟩
     replace B0 := B0.kept hb
     replace bw := bw.trans (hb.mono bw.size)
     clear hb c5 c6 c7 c8 c9 c10 c11 c12 c13
     have c5 := B0.cell 5 rfl
     have c6 := B0.cell 6 rfl
     have c7 := B0.cell 7 rfl
     have c8 := B0.cell 8 rfl
     have c9 := B0.cell 9 rfl
     have c10 := B0.cell 10 rfl
     have c11 := B0.cell 11 rfl
     have c12 := B0.cell 12 rfl
     have c13 := B0.cell 13 rfl
     go_wp2_with fail
     go_meet
     refine ⟨?_, B0, bw⟩
     rw [EB.out]
     simp [hn, hm, q]
 case rest =>
 obtain ⟨rfl, B1, bw1⟩ := hcut
 clear N2 N3 EB B0 bw wS8 hsum8
 have B0 := B1
 have bw := bw1
 clear B1 bw1
 go_upto_region 3 with fail
 go_cut [5] (fun s5 wx => s5 = .bool C ∧ Cel wx w.heap.size [.int .i64 K, .int .i64 N, .slice ao xs.length cap, .slice so S.length sc, .slice tO T.length tc, .int .i64 N8, .int .i64 k8, .int .i64 V8, .int .i64 M8, .slice a8 x8.length e8, .int .i64 L8, .slice q8 y8.length d8, .slice s8 S8.length f8, .slice t8 T8.length g8, .int .i64 N9, .int .i64 M9, .int .i64 k9, .int .i64 V9, .int .i64 L9, .slice a9 x9.length e9, .int .i64 H9, .slice q9 y9.length d9] 36 ∧ Below w.heap.size w wx)
 case first =>
  have c14 := B0.cell 14 rfl
  have c15 := B0.cell 15 rfl
  have c16 := B0.cell 16 rfl
  have c17 := B0.cell 17 rfl
  have c18 := B0.cell 18 rfl
  have c19 := B0.cell 19 rfl
  have c20 := B0.cell 20 rfl
  have c21 := B0.cell 21 rfl
  by_cases q : N9 = 0
  rotate_left
  ·have d : (N9 == 0) = false := by simp [q]
   go_wp2_with fail
   go_meet
   refine ⟨?_, B0, bw⟩
   rw [EC.out]
   simp [q]
  subst q
  by_cases q : M9 = 0
  rotate_left
  ·have d : (M9 == 0) = false := by simp [q]
   go_wp2_with fail
   go_meet
   refine ⟨?_, B0, bw⟩
   rw [EC.out]
   simp [q]
  subst q
  cases hn : nons k9 V9 L9 x9.length with
  | false =>
   rw [hn] at N4
   go_wp2_with fail
   refine (N4.out _).mono ?_
   rintro e w1 ⟨rfl, hb⟩
   replace B0 := B0.kept hb
   replace bw := bw.trans (hb.mono bw.size)
   clear hb c14 c15 c16 c17 c18 c19 c20 c21
   have c14 := B0.cell 14 rfl
   have c15 := B0.cell 15 rfl
   have c16 := B0.cell 16 rfl
   have c17 := B0.cell 17 rfl
   have c18 := B0.cell 18 rfl
   have c19 := B0.cell 19 rfl
   have c20 := B0.cell 20 rfl
   have c21 := B0.cell 21 rfl
   go_wp2_with fail
   go_meet
   refine ⟨?_, B0, bw⟩
   rw [EC.out]
   simp [hn]
  | true =>
   rw [hn] at N4
   go_wp2_with fail
   refine (N4.out _).mono ?_
   rintro e w1 ⟨rfl, hb⟩
   replace B0 := B0.kept hb
   replace bw := bw.trans (hb.mono bw.size)
   clear hb c14 c15 c16 c17 c18 c19 c20 c21
   have c14 := B0.cell 14 rfl
   have c15 := B0.cell 15 rfl
   have c16 := B0.cell 16 rfl
   have c17 := B0.cell 17 rfl
   have c18 := B0.cell 18 rfl
   have c19 := B0.cell 19 rfl
   have c20 := B0.cell 20 rfl
   have c21 := B0.cell 21 rfl
   go_wp2_with fail
   refine (N5.out _).mono ?_
   rintro e w2 ⟨rfl, hb⟩
   replace B0 := B0.kept hb
   replace bw := bw.trans (hb.mono bw.size)
   clear hb c14 c15 c16 c17 c18 c19 c20 c21
   have c14 := B0.cell 14 rfl
   have c15 := B0.cell 15 rfl
   have c16 := B0.cell 16 rfl
   have c17 := B0.cell 17 rfl
   have c18 := B0.cell 18 rfl
   have c19 := B0.cell 19 rfl
   have c20 := B0.cell 20 rfl
   have c21 := B0.cell 21 rfl
   generalize norw [(H9, y9.length)] = R at *
   go_wp2_with fail
   go_meet
   refine ⟨?_, B0, bw⟩
   rw [EC.out]
   simp [hn]
 case rest =>
 obtain ⟨rfl, B1, bw1⟩ := hcut
 clear N4 N5 EC B0 bw
 have c0 := B1.cell 0 rfl
 by_cases q1 : K = 1
 ·subst q1
  cases A <;> cases B <;> cases C <;> (go_wp2; go_ret; rw [hZ2.out]; exact ⟨rfl, bw1⟩)
 by_cases q2 : K = 2
 ·subst q2
  cases A <;> cases B <;> cases C <;> (go_wp2; go_ret; rw [hZ2.out]; exact ⟨rfl, bw1⟩)
 by_cases q3 : K = 3
 ·subst q3
  cases A <;> cases B <;> cases C <;> (go_wp2; go_ret; rw [hZ2.out]; exact ⟨rfl, bw1⟩)
 have d1 : (K == 1) = false := by simp [q1]
 have d2 : (K == 2) = false := by simp [q2]
 have d3 : (K == 3) = false := by simp [q3]
 rw [decide_eq_false q1, decide_eq_false q2, decide_eq_false q3] at hZ2
 cases A <;> cases B <;> cases C <;> (go_wp2; go_ret; rw [hZ2.out]; exact ⟨rfl, bw1⟩)
end Go.Proofs.YtcaalcjcpddhaaaGreat
