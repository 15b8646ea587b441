/-
  The contract of the program's Check, where it fits. The contracts of the program's Check, Bits, Size, Access, Rank and Select, over rows by places as values. The contracts of the program's Access, Rank and Select, over rows by places as values. The contract of the program's Build.
-/
import Derived.Test.YtjahipjghenbjaaGreatDoorL12
import Derived.Test.YtjahipjghenbjaaGreatDoorL11
import Derived.Test.YtjahipjghenbjaaGreatDoorL16
import Derived.Test.YtjahipjghenbjaaGreatDoorL13
import Derived.Test.YtjahipjghenbjaaGreatDoorL15
import Derived.Test.YtjahipjghenbjaaGreatDoorL10
set_option linter.unusedVariables false
set_option linter.unusedSimpArgs false
set_option maxRecDepth 100000
set_option maxHeartbeats 16000000
namespace Go.Proofs.YtjahipjghenbjaaGreatDoor
open Go.RowKit Go.Shelf Num Bit
attribute [local go_sem] Oper.semAt_some
theorem ginfo_f : (Tryz.prog.info? 43).map (·.size) = some 8 := by kernel_rfl
theorem gbuild_bad (N : Int) (ao : Option Addr) (xs : List Nat) (cap : Nat) (w : World) (hx : Wd w ao xs) (hk : chk N xs = false) :
  Calls Tryz.prog 54 #[.agg #[.int .i64 N, .slice ao xs.length cap]] w fun e w' => e = .returned (.tuple #[.agg #[.int .i64 0, .int .i64 0, .int .i64 0, .int .i64 0, .int .i64 0, .slice none 0 0, .int .i64 0, .slice none 0 0], .int .i64 2]) ∧ Below w.heap.size w w' := by
 have CC : Hid (∀ w0, Below w.heap.size w w0 → Calls Tryz.prog 92 #[.agg #[.int .i64 N, .slice ao xs.length cap]] w0 fun e w' => e = .returned (.bool false) ∧ Below w0.heap.size w0 w') := fun w0 hb => by
  have := check_c N ao xs cap w0 (hx.keep hb)
  rw [hk] at this
  exact this
 obtain ⟨W1, hW1⟩ : ∃ W1, W1 = (w.alloc (.cells #[.int .i64 N, .slice ao xs.length cap] 33)).alloc (.cells #[.int .i64 0, .int .i64 0, .int .i64 0, .int .i64 0, .int .i64 0, .slice none 0 0, .int .i64 0, .slice none 0 0] 43) := ⟨_, rfl⟩
 have b1 : Below w.heap.size w W1 := by rw [hW1]; exact ((below_alloc w _).alloc (by simp only [World.size_alloc]; omega) _)
 have c1 : Cel W1 (w.heap.size + 1) [.int .i64 0, .int .i64 0, .int .i64 0, .int .i64 0, .int .i64 0, .slice none 0 0, .int .i64 0, .slice none 0 0] 43 := by rw [hW1]; exact Cel.new2 w _ _ _
 go_enter Tryz.func54, Tryz.ntmps54
 go_wp2_with fail
 rw [← hW1]
 clear hW1 hx
 refine (CC.out _ b1).mono ?_
 rintro e wf ⟨rfl, hb⟩
 replace b1 := b1.trans (hb.mono b1.size)
 replace c1 := c1.kept hb
 clear hb CC
 go_wp2_with (refine store_cel (w.heap.size + 1) [.int .i64 0, .int .i64 0, .int .i64 0, .int .i64 0, .int .i64 0, .slice none 0 0, .int .i64 0, .slice none 0 0] [.int .i64 0, .int .i64 0, .int .i64 0, .int .i64 0, .int .i64 0, .slice none 0 0, .int .i64 0, .slice none 0 0] rfl rfl c1 rfl ginfo_f (by simp [Value.oneCell']) ?_)
 intro w3 B3 O3
 have HZ := hide9' (And.intro B3 (b1.trans (O3.below (Nat.le_succ _))))
 clear B3 O3 b1 c1
 go_wp2
 (try simp only [Exit.inBlock, Exit.then])
 exact bodyPost_ret (result_cel rfl (w.heap.size + 1) _ rfl HZ.out.1 Tryz.underlying43 ginfo_f) rfl ⟨rfl, HZ.out.2⟩
theorem gbuild_ok (n : Nat) (ao : Option Addr) (xs : List Nat) (cap : Nat) (w : World) (m : Nat) (k V LM H : Int) (LX LY : List Nat) (xn yn : Nat) (hxn : xn = LX.length) (hyn : yn = LY.length)
  (CC : Hid (∀ w0, Below w.heap.size w w0 → Calls Tryz.prog 92 #[.agg #[.int .i64 (n : Nat), .slice ao xs.length cap]] w0 fun e w' => e = .returned (.bool true) ∧ Below w0.heap.size w0 w'))
  (CO : Hid (∀ w0, Below w.heap.size w w0 → Calls Tryz.prog 103 #[.agg #[.int .i64 (n : Nat), .slice ao xs.length cap], .int .i64 (n : Nat)] w0 fun e w' => e = .returned (.int .i64 (m : Nat)) ∧ Below w0.heap.size w0 w'))
  (CL : Hid (∀ w0, Below w.heap.size w w0 → Calls Tryz.prog 104 #[.agg #[.int .i64 (n : Nat), .slice ao xs.length cap], .int .i64 (m : Nat)] w0 fun e w' => ∃ bo bc, e = .returned (.tuple #[.agg #[.int .i64 k, .int .i64 V, .int .i64 LM, .slice bo xn bc], .int .i64 0]) ∧ Wd w' bo LX ∧ xn ≤ bc ∧ Below w0.heap.size w0 w'))
  (CH : Hid (∀ w0, Below w.heap.size w w0 → Calls Tryz.prog 105 #[.agg #[.int .i64 (n : Nat), .slice ao xs.length cap], .int .i64 (m : Nat)] w0 fun e w' => ∃ qo qc, e = .returned (.tuple #[.agg #[.int .i64 H, .slice qo yn qc], .int .i64 0]) ∧ Wd w' qo LY ∧ yn ≤ qc ∧ Below w0.heap.size w0 w')) :
  Calls Tryz.prog 54 #[.agg #[.int .i64 (n : Nat), .slice ao xs.length cap]] w fun e w' => ∃ bo bc qo qc, e = .returned (.tuple #[.agg #[.int .i64 (n : Nat), .int .i64 (m : Nat), .int .i64 k, .int .i64 V, .int .i64 LM, .slice bo xn bc, .int .i64 H, .slice qo yn qc], .int .i64 0]) ∧ Wd w' bo LX ∧ xn ≤ bc ∧ Wd w' qo LY ∧ yn ≤ qc ∧ Below w.heap.size w w' := by
 have HX := hide9' hxn
 have HY := hide9' hyn
 clear hxn hyn
 obtain ⟨W1, hW1⟩ : ∃ W1, W1 = (w.alloc (.cells #[.int .i64 (n : Nat), .slice ao xs.length cap] 33)).alloc (.cells #[.int .i64 0, .int .i64 0, .int .i64 0, .int .i64 0, .int .i64 0, .slice none 0 0, .int .i64 0, .slice none 0 0] 43) := ⟨_, rfl⟩
 have b1 : Below w.heap.size w W1 := by rw [hW1]; exact ((below_alloc w _).alloc (by simp only [World.size_alloc]; omega) _)
 have c0 : Cel W1 w.heap.size [.int .i64 (n : Nat), .slice ao xs.length cap] 33 := by rw [hW1]; exact (Cel.new w _ _).alloc _
 have c1 : Cel W1 (w.heap.size + 1) [.int .i64 0, .int .i64 0, .int .i64 0, .int .i64 0, .int .i64 0, .slice none 0 0, .int .i64 0, .slice none 0 0] 43 := by rw [hW1]; exact Cel.new2 w _ _ _
 go_enter Tryz.func54, Tryz.ntmps54
 go_wp2_with fail
 rw [← hW1]
 clear hW1
 refine (CC.out _ b1).mono ?_
 rintro e wf ⟨rfl, hb⟩
 replace b1 := b1.trans (hb.mono b1.size)
 replace c0 := c0.kept hb
 replace c1 := c1.kept hb
 clear hb CC
 have q0 := c0.cell 0 rfl
 have q1 := c0.cell 1 rfl
 go_wp2_with fail
 refine (CO.out _ b1).mono ?_
 rintro e w2 ⟨rfl, hb⟩
 replace b1 := b1.trans (hb.mono b1.size)
 replace c0 := c0.kept hb
 replace c1 := c1.kept hb
 clear hb CO q0 q1
 have q0 := c0.cell 0 rfl
 have q1 := c0.cell 1 rfl
 go_wp2_with fail
 refine (CL.out _ b1).mono ?_
 rintro e w3 ⟨bo, bc, rfl, hX, hxc, hb⟩
 replace b1 := b1.trans (hb.mono b1.size)
 replace c0 := c0.kept hb
 replace c1 := c1.kept hb
 clear hb CL q0 q1
 have bA := below_alloc w3 (.cells #[.int .i64 k, .int .i64 V, .int .i64 LM, .slice bo xn bc] 39)
 have d5 := Cel.new w3 [.int .i64 k, .int .i64 V, .int .i64 LM, .slice bo xn bc] 39
 have d0 := c0.kept bA
 have d1 := c1.kept bA
 have hX2 := hX.keep bA
 have b2 := b1.trans (bA.mono b1.size)
 have q0 := d0.cell 0 rfl
 have q1 := d0.cell 1 rfl
 go_wp2_with fail
 refine (CH.out _ b2).mono ?_
 rintro e w4 ⟨qo, qc, rfl, hY, hyc, hb⟩
 replace b2 := b2.trans (hb.mono b2.size)
 replace d0 := d0.kept hb
 replace d1 := d1.kept hb
 replace d5 := d5.kept hb
 replace hX2 := hX2.keep hb
 clear hb CH q0 q1 bA b1 c0 c1 hX
 have bA := below_alloc w4 (.cells #[.int .i64 H, .slice qo yn qc] 33)
 have e7 := Cel.new w4 [.int .i64 H, .slice qo yn qc] 33
 have e0 := d0.kept bA
 have e1 := d1.kept bA
 have e5 := d5.kept bA
 have hX3 := hX2.keep bA
 have hY3 := hY.keep bA
 have b3 := b2.trans (bA.mono b2.size)
 have q0 := e0.cell 0 rfl
 clear bA d0 d1 d5 hX2 hY b2
 have ne1 := hX3.apart e1 (by intro v hv n; simp at hv; rcases hv with rfl | rfl | rfl | rfl <;> simp)
 have ne2 := hY3.apart e1 (by intro v hv n; simp at hv; rcases hv with rfl | rfl | rfl | rfl <;> simp)
 generalize w3.heap.size = g5 at *
 go_wp2_with (first | refine load_cel g5 _ rfl e5 Tryz.underlying39 ginfo_i ?_ | refine load_cel w4.heap.size _ rfl e7 Tryz.underlying33 ginfo_b ?_ | refine store_cel (w.heap.size + 1) [.int .i64 0, .int .i64 0, .int .i64 0, .int .i64 0, .int .i64 0, .slice none 0 0, .int .i64 0, .slice none 0 0] [.int .i64 (n : Nat), .int .i64 (m : Nat), .int .i64 k, .int .i64 V, .int .i64 LM, .slice bo xn bc, .int .i64 H, .slice qo yn qc] rfl rfl e1 rfl ginfo_f (by simp [Value.oneCell']) ?_)
 intro w5 B3 O3
 have HZ := hide9' (And.intro B3 (And.intro (O3.wd hX3 ne1) (And.intro (O3.wd hY3 ne2) (b3.trans (O3.below (Nat.le_succ _))))))
 clear B3 O3 hX3 hY3 b3 e0 e1 e5 e7 ne1 ne2
 go_wp2
 (try simp only [Exit.inBlock, Exit.then])
 exact bodyPost_ret (result_cel rfl (w.heap.size + 1) _ rfl HZ.out.1 Tryz.underlying43 ginfo_f) rfl ⟨bo, bc, qo, qc, rfl, HZ.out.2.1, hxc, HZ.out.2.2.1, hyc, HZ.out.2.2.2⟩
theorem build_k9 (N : Int) (ao : Option Addr) (xs : List Nat) (cap : Nat) (w : World) (hN : I64 N) (hx : Wd w ao xs) (hf : Fit xs) (hcap : xs.length ≤ cap) (hl : N ≤ 3000 ∧ xs.length ≤ 1048576) :
  Calls Tryz.prog 54 #[.agg #[.int .i64 N, .slice ao xs.length cap]] w fun e w' => ∃ cs : List Value, e = .returned (.tuple #[.agg cs.toArray, .int .i64 (kE9 N xs)]) ∧ KI9 w' cs (kB9 N xs) ∧ Below w.heap.size w w' := by
 have z : I64 0 := ⟨by decide, by decide⟩
 cases hk : chk N xs with
 | false =>
  refine (gbuild_bad N ao xs cap w hx hk).mono ?_
  rintro e w' ⟨rfl, hb⟩
  have e1 : kE9 N xs = 2 := by unfold kE9; rw [hk]; rfl
  have e2 : kB9 N xs = ⟨0, 0, 0, 0, 0, [], 0, []⟩ := by unfold kB9; rw [hk]; rfl
  rw [e1, e2]
  have f0 : Fit [] := fun i => by unfold gt; simp
  exact ⟨_, rfl, ⟨⟨none, 0, none, 0, rfl, ⟨z, z, z, z, z, z⟩, wd0' _ _, f0, Nat.le_refl _, wd0' _ _, f0, Nat.le_refl _⟩, by decide, by simp, by simp⟩, hb⟩
 | true =>
  obtain ⟨u1, u2, u3, u4⟩ := chk_out _ _ hk
  obtain ⟨n, rfl⟩ := Int.eq_ofNat_of_zero_le u1
  have hn : n ≤ 3000 := by omega
  obtain ⟨L, hL⟩ : ∃ L, L = plc (bitAt xs) n := ⟨_, rfl⟩
  obtain ⟨v, hv⟩ : ∃ v, v = wdF n L.length := ⟨_, rfl⟩
  have RS : Rise L n := by rw [hL]; exact plc_rise _ _
  have mn := RS.len
  have v20 : v ≤ 20 := by rw [hv]; exact wdF_le n _ (by omega)
  have e1 : kE9 (n : Int) xs = 0 := by unfold kE9; rw [hk]; rfl
  have e2 : kB9 (n : Int) xs = ⟨n, L.length, (loP L v).length, (max v 1 : Nat), ((loP L v).length : Int) * (max v 1 : Nat), mkS (loP L v) (max v 1) (loP L v).length, hiN L n v, rowOf (hiN L n v) (isIn (hiP L v))⟩ := by
   unfold kB9
   rw [if_pos hk, Int.toNat_natCast, ← hL]
   unfold fOf
   rw [← hv]
  have CC : Hid (∀ w0, Below w.heap.size w w0 → Calls Tryz.prog 92 #[.agg #[.int .i64 (n : Nat), .slice ao xs.length cap]] w0 fun e w' => e = .returned (.bool true) ∧ Below w0.heap.size w0 w') := fun w0 hb => by
   have := check_c n ao xs cap w0 (hx.keep hb)
   rw [hk] at this
   exact this
  have CO : Hid (∀ w0, Below w.heap.size w w0 → Calls Tryz.prog 103 #[.agg #[.int .i64 (n : Nat), .slice ao xs.length cap], .int .i64 (n : Nat)] w0 fun e w' => e = .returned (.int .i64 (L.length : Nat)) ∧ Below w0.heap.size w0 w') := fun w0 hb => by
   have := bones_c n ao xs cap n w0 (hx.keep hb) hf hcap
   have on : onesI (n : Int) xs (n : Int) = (L.length : Int) := by
    rw [hL, plc_cnt]
    unfold onesI
    rw [hk, show min (n : Int) (n : Int) = (n : Int) by omega, Int.toNat_natCast]
    rfl
   rw [on] at this
   exact this
  have CL : Hid (∀ w0, Below w.heap.size w w0 → Calls Tryz.prog 104 #[.agg #[.int .i64 (n : Nat), .slice ao xs.length cap], .int .i64 (L.length : Nat)] w0 fun e w' => ∃ bo bc, e = .returned (.tuple #[.agg #[.int .i64 ((loP L v).length : Nat), .int .i64 (max v 1 : Nat), .int .i64 (((loP L v).length : Int) * (max v 1 : Nat)), .slice bo (mkS (loP L v) (max v 1) (loP L v).length).length bc], .int .i64 0]) ∧ Wd w' bo (mkS (loP L v) (max v 1) (loP L v).length) ∧ (mkS (loP L v) (max v 1) (loP L v).length).length ≤ bc ∧ Below w0.heap.size w0 w') := fun w0 hb => by
   by_cases c : v = 0
   ·refine (glowOf_0 n ao xs cap w0 L.length hn mn (by rw [← hv]; exact c)).mono ?_
    rintro e w' ⟨bo, bc, rfl, hb2⟩
    subst c
    have e3 : loP L 0 = [] := rfl
    have e4 : mkS [] 1 0 = [] := by unfold mkS; rfl
    rw [e3]
    exact ⟨bo, bc, rfl, wd0' _ _, Nat.zero_le _, hb2⟩
   ·refine (glowOf_v n ao xs cap w0 (hx.keep hb) hf hk hn L hL L.length v rfl hv (by omega)).mono ?_
    rintro e w' ⟨g, k, rfl, hk2, hO, hb2⟩
    have e3 : (loP L v).length = L.length := length_loP L v (by omega)
    have e4 : max v 1 = v := by omega
    rw [e3, e4]
    exact ⟨some ⟨g, 0, none⟩, k, by rw [hk2], hO.wd, by rw [hk2]; exact Nat.le_refl _, hb2⟩
  have CH : Hid (∀ w0, Below w.heap.size w w0 → Calls Tryz.prog 105 #[.agg #[.int .i64 (n : Nat), .slice ao xs.length cap], .int .i64 (L.length : Nat)] w0 fun e w' => ∃ qo qc, e = .returned (.tuple #[.agg #[.int .i64 (hiN L n v : Nat), .slice qo (rowOf (hiN L n v) (isIn (hiP L v))).length qc], .int .i64 0]) ∧ Wd w' qo (rowOf (hiN L n v) (isIn (hiP L v))) ∧ (rowOf (hiN L n v) (isIn (hiP L v))).length ≤ qc ∧ Below w0.heap.size w0 w') := fun w0 hb => by
   refine (ghighOf_c n ao xs cap w0 (hx.keep hb) hf hk hn L hL L.length v (hiN L n v) ((hiN L n v + 63) / 64) rfl hv rfl rfl).mono ?_
   rintro e w' ⟨g, rfl, hO, _, hb2⟩
   exact ⟨some ⟨g, 0, none⟩, _, by rw [length_rowOf], hO.wd, by rw [length_rowOf]; exact Nat.le_refl _, hb2⟩
  refine (gbuild_ok n ao xs cap w L.length _ _ _ _ _ _ _ _ rfl rfl CC CO CL CH).mono ?_
  rintro e w' ⟨bo, bc, qo, qc, rfl, p1, p2, p3, p4, hb⟩
  rw [e1, e2]
  have l1 := length_lo_le L v
  have hE : n / 2 ^ v ≤ n := Nat.div_le_self _ _
  have l2 : hiN L n v ≤ 6001 := by unfold hiN; omega
  have l3 : (loP L v).length * max v 1 ≤ 3000 * 20 := Nat.mul_le_mul (by omega) (by omega)
  have l4 : (mkS (loP L v) (max v 1) (loP L v).length).length ≤ 1048576 := by rw [length_mkS]; omega
  have l5 : (rowOf (hiN L n v) (isIn (hiP L v))).length ≤ 1048576 := by rw [length_rowOf]; omega
  have i1 : I64 (n : Int) := ⟨by omega, by omega⟩
  have i2 : I64 (L.length : Int) := ⟨by omega, by omega⟩
  have i3 : I64 ((loP L v).length : Int) := ⟨by omega, by omega⟩
  have i5 : I64 ((max v 1 : Nat) : Int) := ⟨by omega, by omega⟩
  have i6 : I64 (hiN L n v : Int) := ⟨by omega, by omega⟩
  have i4 : I64 (((loP L v).length : Int) * (max v 1 : Nat)) := by
   rw [← Int.natCast_mul]
   exact ⟨by omega, by omega⟩
  exact ⟨_, rfl, ⟨⟨bo, bc, qo, qc, rfl, ⟨i1, i2, i3, i5, i4, i6⟩, p1, fit_mkS _ _ _, p2, p3, fit_rowOf _ _, p4⟩, hl.1, l4, l5⟩, hb⟩
end Go.Proofs.YtjahipjghenbjaaGreatDoor
