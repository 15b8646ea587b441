/-
  The contract of the document's Build of layer 9. The contract of the document's Build. The contracts of the document's none, nones and zero.
-/
import Derived.Test.YtpeecabfcgijhaaGreatDoorB34
import Derived.Test.YtpeecabfcgijhaaGreatDoorB33
import Derived.Test.YtpeecabfcgijhaaGreatDoorB12
import Derived.Deep.DeepCutAuto
set_option linter.unusedVariables false
set_option linter.unusedSimpArgs false
set_option maxRecDepth 100000
set_option maxHeartbeats 16000000
namespace Go.Proofs.YtpeecabfcgijhaaGreatDoor
open Go.RowKit Num Bit
theorem step_store9 {ops : Array Oper} {d : Option Tmp} {ty T : TypeId} {ps : String} {af : Array Edge} {a : Act} {w : World} {K : Act → World → Prop} {Q : Exit → Act → World → Prop} {E : Prop} {x y : Operand}
  (g : Nat) (old cs : List Value) (hx : a.eval x = .pointer (some ⟨g, 0, none⟩)) (hy : a.eval y = .agg cs.toArray) (hc : Cel w g old T) (lo : old.length = cs.length) (hi : (Tryz.prog.info? T).map (·.size) = some cs.length) (h1 : cs.toArray.all (·.oneCell') = true)
  (h : ∀ w1, Cel w1 g cs T → Only g w w1 → K (a.put d undef) w1) :
  if Region.wanted (⟨d, .store T x y, ty, ps, af, none⟩ : Oper) (yielded ops a.tmps) = true then Oper.wp Tryz.prog (⟨d, .store T x y, ty, ps, af, none⟩ : Oper) a w K Q else E := by
 rw [if_pos (by simp [Region.wanted])]
 exact wp_store_row _ x y rfl g cs.toArray hx hy _ _ hc (by simpa using hi) (by simpa using lo) h1 (h _ (setRow_heap w g _ _ _ _ hc) (Only.row g w _))
theorem f9build_bad (N : Int) (ao : Option Addr) (xs : List Nat) (cap : Nat) (w : World) (hx : Wd w ao xs) (hf : Fit xs) (hk : chk N xs = false) :
  Calls Tryz.prog 43 #[.agg #[.int .i64 N, .slice ao xs.length cap]] w fun e w' => e = .returned (.tuple #[.agg #[.int .i64 0, .int .i64 0, .int .i64 0, .int .i64 0, .int .i64 0, .slice none 0 0, .int .i64 0, .slice none 0 0], .int .i64 2]) ∧ Below w.heap.size w w' := by
 have CC : Hid (∀ w0, Below w.heap.size w w0 → Calls Tryz.prog 7 #[.agg #[.int .i64 N, .slice ao xs.length cap]] w0 fun e w' => e = .returned (.bool false) ∧ Below w0.heap.size w0 w') := fun w0 hb => by
  have := refcheck_c N ao xs cap w0 (hx.keep hb) hf
  rw [hk] at this
  exact this
 obtain ⟨W1, hW1⟩ : ∃ W1, W1 = (w.alloc (.cells #[.int .i64 N, .slice ao xs.length cap] 24)).alloc (.cells #[.int .i64 0, .int .i64 0, .int .i64 0, .int .i64 0, .int .i64 0, .slice none 0 0, .int .i64 0, .slice none 0 0] 35) := ⟨_, rfl⟩
 have b1 : Below w.heap.size w W1 := by rw [hW1]; exact (below_alloc w _).alloc (by simp) _
 have c1 : Cel W1 (w.heap.size + 1) [.int .i64 0, .int .i64 0, .int .i64 0, .int .i64 0, .int .i64 0, .slice none 0 0, .int .i64 0, .slice none 0 0] 35 := by rw [hW1]; exact Cel.new2 w _ _ _
 go_enter Tryz.func43, Tryz.ntmps43
 go_wp2_with fail
 rw [← hW1]
 clear hW1 hx
 refine (CC.out _ b1).mono ?_
 rintro e wf ⟨rfl, hb⟩
 replace b1 := b1.trans (hb.mono b1.size)
 replace c1 := c1.kept hb
 clear hb CC
 go_wp2_with (refine store_cel (w.heap.size + 1) [.int .i64 0, .int .i64 0, .int .i64 0, .int .i64 0, .int .i64 0, .slice none 0 0, .int .i64 0, .slice none 0 0] [.int .i64 0, .int .i64 0, .int .i64 0, .int .i64 0, .int .i64 0, .slice none 0 0, .int .i64 0, .slice none 0 0] rfl rfl c1 rfl info_f8 (by simp [Value.oneCell']) ?_)
 intro w3 B3 O3
 have HZ := hide9 (And.intro B3 (b1.trans (O3.below (Nat.le_succ _))))
 clear B3 O3 b1 c1
 go_wp2
 (try simp only [Exit.inBlock, Exit.then])
 exact bodyPost_ret (result_cel rfl (w.heap.size + 1) _ rfl HZ.out.1 Tryz.underlying35 info_f8) rfl ⟨rfl, HZ.out.2⟩
theorem f9build_ok (n : Nat) (ao : Option Addr) (xs : List Nat) (cap : Nat) (l : List Nat) (w : World) (y1 y2 y3 y4 y5 y7 : Int) (y6 y8 : Nat)
  (CC : Hid (∀ w0, Below w.heap.size w w0 → Calls Tryz.prog 7 #[.agg #[.int .i64 (n : Nat), .slice ao xs.length cap]] w0 fun e w' => e = .returned (.bool true) ∧ Below w0.heap.size w0 w'))
  (PC : Hid (∀ w0, Below w.heap.size w w0 → Calls Tryz.prog 97 #[.agg #[.int .i64 (n : Nat), .slice ao xs.length cap]] w0 fun e w' => ∃ so sc, e = .returned (.slice so l.length sc) ∧ Nd w' so (lz l) ∧ Below w0.heap.size w0 w'))
  (YP : World → Option Addr → Nat → Option Addr → Nat → Prop) (yo9 : ∀ w1 w2 yo yc zo zc, YP w1 yo yc zo zc → Only (w.heap.size + 1) w1 w2 → Cel w1 (w.heap.size + 1) [.int .i64 0, .int .i64 0, .int .i64 0, .int .i64 0, .int .i64 0, .slice none 0 0, .int .i64 0, .slice none 0 0] 35 → YP w2 yo yc zo zc)
  (OC : Hid (∀ w0 so sc, Nd w0 so (lz l) → Calls Tryz.prog 96 #[.int .i64 (n : Nat), .slice so l.length sc] w0 fun e w' => ∃ yo yc zo zc, e = .returned (.tuple #[.agg #[.int .i64 y1, .int .i64 y2, .int .i64 y3, .int .i64 y4, .int .i64 y5, .slice yo y6 yc, .int .i64 y7, .slice zo y8 zc], .int .i64 0]) ∧ YP w' yo yc zo zc ∧ Below w0.heap.size w0 w')) :
  Calls Tryz.prog 43 #[.agg #[.int .i64 (n : Nat), .slice ao xs.length cap]] w fun e w' => ∃ yo yc zo zc, e = .returned (.tuple #[.agg #[.int .i64 y1, .int .i64 y2, .int .i64 y3, .int .i64 y4, .int .i64 y5, .slice yo y6 yc, .int .i64 y7, .slice zo y8 zc], .int .i64 0]) ∧ YP w' yo yc zo zc ∧ Below w.heap.size w w' := by
 obtain ⟨W1, hW1⟩ : ∃ W1, W1 = (w.alloc (.cells #[.int .i64 (n : Nat), .slice ao xs.length cap] 24)).alloc (.cells #[.int .i64 0, .int .i64 0, .int .i64 0, .int .i64 0, .int .i64 0, .slice none 0 0, .int .i64 0, .slice none 0 0] 35) := ⟨_, rfl⟩
 have b1 : Below w.heap.size w W1 := by rw [hW1]; exact (below_alloc w _).alloc (by simp) _
 have c0 : Cel W1 w.heap.size [.int .i64 (n : Nat), .slice ao xs.length cap] 24 := by rw [hW1]; exact (Cel.new w _ _).alloc _
 have c1 : Cel W1 (w.heap.size + 1) [.int .i64 0, .int .i64 0, .int .i64 0, .int .i64 0, .int .i64 0, .slice none 0 0, .int .i64 0, .slice none 0 0] 35 := by rw [hW1]; exact Cel.new2 w _ _ _
 go_enter Tryz.func43, Tryz.ntmps43
 go_wp2_with fail
 rw [← hW1]
 clear hW1
 refine (CC.out _ b1).mono ?_
 rintro e wf ⟨rfl, hb⟩
 replace b1 := b1.trans (hb.mono b1.size)
 replace c0 := c0.kept hb
 replace c1 := c1.kept hb
 clear hb CC
 go_wp2_with fail
 refine region_g [7] (fun w0 => Cel w0 w.heap.size [.int .i64 (n : Nat), .slice ao xs.length cap] 24 ∧ Cel w0 (w.heap.size + 1) [.int .i64 0, .int .i64 0, .int .i64 0, .int .i64 0, .int .i64 0, .slice none 0 0, .int .i64 0, .slice none 0 0] 35 ∧ Below w.heap.size w w0) (by kernel_rfl) ?_
 have hS : (fun w0 : World => Cel w0 w.heap.size [.int .i64 (n : Nat), .slice ao xs.length cap] 24 ∧ Cel w0 (w.heap.size + 1) [.int .i64 0, .int .i64 0, .int .i64 0, .int .i64 0, .int .i64 0, .slice none 0 0, .int .i64 0, .slice none 0 0] 35 ∧ Below w.heap.size w w0) wf.drew := ⟨c0.drew, c1.drew, b1.drew⟩
 clear c0 c1 b1
 refine AnyG.tk 0 hS ?_
 refine AnyG.tf 1 hS rfl (fun w0 h0 => by have := h0.1.cell 0 rfl; go_simp; try with_reducible rfl) ?_
 refine AnyG.tf 2 hS rfl (fun w0 h0 => by have := h0.1.cell 0 rfl; have := h0.1.cell 1 rfl; go_simp; try with_reducible rfl) ?_
 refine AnyG.o1 3 ?_
 intro K hK
 go_simp
 refine (PC.out _ hS.2.2).mono ?_
 rintro e w2 ⟨so, sc, rfl, hN, hb⟩
 replace hS := And.intro (hS.1.kept hb) (And.intro (hS.2.1.kept hb) (hS.2.2.trans (hb.mono hS.2.2.size)))
 clear hb
 refine hK.out _ _ (fun _ => hS) ?_
 clear hK K
 try simp only [Act.put, yq0, yq1, yq2, yq3, yq4, yq5]
 refine AnyG.o1 4 ?_
 intro K hK
 go_simp
 refine (OC.out _ _ _ hN).mono ?_
 rintro e w3 ⟨yo, yc, zo, zc, rfl, hY, hb⟩
 replace hS := And.intro (hS.1.kept hb) (And.intro (hS.2.1.kept hb) (hS.2.2.trans (hb.mono hS.2.2.size)))
 clear hb hN
 refine hK.out _ _ (fun _ => hS) ?_
 clear hK K
 try simp only [Act.put, yq0, yq1, yq2, yq3, yq4, yq5]
 refine AnyG.tk 5 hS ?_
 refine AnyG.tk 6 hS ?_
 refine AnyG.o1 7 ?_
 intro K hK
 refine step_store9 (w.heap.size + 1) [.int .i64 0, .int .i64 0, .int .i64 0, .int .i64 0, .int .i64 0, .slice none 0 0, .int .i64 0, .slice none 0 0] _ rfl rfl hS.2.1 rfl info_f8 (by simp [Value.oneCell']) ?_
 intro w9 B9 O9
 have hY9 := yo9 _ _ _ _ _ _ hY O9 hS.2.1
 have HZ := hide9 (And.intro B9 (And.intro hY9 (hS.2.2.trans (O9.below (Nat.le_succ _)))))
 clear hY9 B9 O9 hS hY
 refine hK.out _ _ (fun h => absurd (by decide) h) ?_
 clear hK K
 try simp only [Act.put, yq0, yq1, yq2, yq3, yq4, yq5]
 refine AnyG.takeW 8 (v := ?vv90) rfl (by kernel_rfl) (by kernel_rfl) (by kernel_rfl) (fun _ _ _ h => h) ?hy90 (by rfl) ?rest90
 case hy90 =>
  intro w0
  go_simp
  try with_reducible rfl
 simp only [Act.put, yq0, yq1, yq2, yq3, yq4, yq5]
 refine AnyG.done (by kernel_rfl) ?_ _
 go_wp2
 (try simp only [Exit.inBlock, Exit.then])
 exact bodyPost_ret (result_cel rfl (w.heap.size + 1) _ rfl HZ.out.1 Tryz.underlying35 info_f8) rfl ⟨yo, yc, zo, zc, rfl, HZ.out.2.1, HZ.out.2.2⟩
theorem f9build_k (N : Int) (ao : Option Addr) (xs : List Nat) (cap : Nat) (w : World) (hx : Wd w ao xs) (hf : Fit xs) (hN : N ≤ 3000) :
  Calls Tryz.prog 43 #[.agg #[.int .i64 N, .slice ao xs.length cap]] w fun e w' => ∃ cs : List Value, e = .returned (.tuple #[.agg cs.toArray, .int .i64 (kE9 N xs)]) ∧ KI9 w' cs (kB9 N xs) ∧ Below w.heap.size w w' := by
 have z : I64 0 := ⟨by decide, by decide⟩
 cases hk : chk N xs with
 | false =>
  refine (f9build_bad N ao xs cap w hx hf hk).mono ?_
  rintro e w' ⟨rfl, hb⟩
  have e1 : kE9 N xs = 2 := by unfold kE9; rw [hk]; rfl
  have e2 : kB9 N xs = ⟨0, 0, 0, 0, 0, [], 0, []⟩ := by unfold kB9; rw [hk]; rfl
  rw [e1, e2]
  have f0 : Fit [] := fun i => by unfold gt; simp
  exact ⟨_, rfl, ⟨⟨none, 0, none, 0, rfl, ⟨z, z, z, z, z, z⟩, wd0' _ _, f0, Nat.le_refl _, wd0' _ _, f0, Nat.le_refl _⟩, by decide, by simp, by simp⟩, hb⟩
 | true =>
  obtain ⟨u1, u2, u3, u4⟩ := chk_out _ _ hk
  obtain ⟨n, rfl⟩ := Int.eq_ofNat_of_zero_le u1
  have hn : n ≤ 3000 := by omega
  obtain ⟨L, hL⟩ : ∃ L, L = plc (bitAt xs) n := ⟨_, rfl⟩
  have RS : Rise L n := by rw [hL]; exact plc_rise _ _
  have mn := RS.len
  have e1 : kE9 (n : Int) xs = 0 := by unfold kE9; rw [hk]; rfl
  have e2 : kB9 (n : Int) xs = fOf n L := by
   unfold kB9
   rw [if_pos hk, Int.toNat_natCast, ← hL]
  have CC : Hid (∀ w0, Below w.heap.size w w0 → Calls Tryz.prog 7 #[.agg #[.int .i64 (n : Nat), .slice ao xs.length cap]] w0 fun e w' => e = .returned (.bool true) ∧ Below w0.heap.size w0 w') := fun w0 hb => by
   have := refcheck_c n ao xs cap w0 (hx.keep hb) hf
   rw [hk] at this
   exact this
  have PC : Hid (∀ w0, Below w.heap.size w w0 → Calls Tryz.prog 97 #[.agg #[.int .i64 (n : Nat), .slice ao xs.length cap]] w0 fun e w' => ∃ so sc, e = .returned (.slice so L.length sc) ∧ Nd w' so (lz L) ∧ Below w0.heap.size w0 w') := fun w0 hb => by
   refine (places_c n ao xs cap w0 (hx.keep hb) hk).mono ?_
   rintro e w' ⟨v, rfl, ho, hb2⟩
   rw [← hL] at ho
   obtain ⟨so, sc, rfl, _, _⟩ := Ap.owns_shape ho
   exact ⟨so, sc, rfl, nd_own9 ho, hb2.mono (Nat.le_refl _)⟩
  have i_y : ∀ {w1 : World} {yo : Option Addr} {X : List Nat}, Wd w1 yo X → Cel w1 (w.heap.size + 1) [.int .i64 0, .int .i64 0, .int .i64 0, .int .i64 0, .int .i64 0, .slice none 0 0, .int .i64 0, .slice none 0 0] 35 → ∀ a, 0 < X.length → yo = some a → a.block ≠ w.heap.size + 1 := fun h hc => h.apart hc (by intro v hv n; simp at hv; rcases hv with rfl | rfl | rfl | rfl <;> simp)
  refine (f9build_ok n ao xs cap L w (fOf n L).N (fOf n L).M (fOf n L).k (fOf n L).V (fOf n L).LM (fOf n L).H (fOf n L).xs.length (fOf n L).ys.length CC PC (fun w0 yo yc zo zc => Wd w0 yo (fOf n L).xs ∧ (fOf n L).xs.length ≤ yc ∧ Wd w0 zo (fOf n L).ys ∧ (fOf n L).ys.length ≤ zc) (fun w1 w2 yo yc zo zc h hO hc => ⟨hO.wd h.1 (i_y h.1 hc), h.2.1, hO.wd h.2.2.1 (i_y h.2.2.1 hc), h.2.2.2⟩) ?_).mono ?_
  ·intro w0 so sc hNd
   exact of9_c n so L sc w0 hNd RS hn
  ·rintro e w' ⟨bo, bc, qo, qc, rfl, ⟨p1, p2, p3, p4⟩, hb⟩
   rw [e1, e2]
   obtain ⟨v, hv⟩ : ∃ v, v = wdF n L.length := ⟨_, rfl⟩
   have v20 : v ≤ 20 := by rw [hv]; exact wdF_le n _ (by omega)
   have e3 : fOf n L = ⟨n, L.length, (loP L v).length, (max v 1 : Nat), ((loP L v).length : Int) * (max v 1 : Nat), mkS (loP L v) (max v 1) (loP L v).length, hiN L n v, rowOf (hiN L n v) (isIn (hiP L v))⟩ := by
    unfold fOf
    rw [← hv]
   rw [e3] at p1 p2 p3 p4 ⊢
   dsimp only at p1 p2 p3 p4 ⊢
   have l1 := length_lo_le L v
   have hE : n / 2 ^ v ≤ n := Nat.div_le_self _ _
   have l2 : hiN L n v ≤ 6001 := by unfold hiN; omega
   have l3 : (loP L v).length * max v 1 ≤ 3000 * 20 := Nat.mul_le_mul (by omega) (by omega)
   have l4 : (mkS (loP L v) (max v 1) (loP L v).length).length ≤ 1048576 := by rw [length_mkS]; omega
   have l5 : (rowOf (hiN L n v) (isIn (hiP L v))).length ≤ 1048576 := by rw [length_rowOf]; omega
   have i1 : I64 (n : Int) := ⟨by omega, by omega⟩
   have i2 : I64 (L.length : Int) := ⟨by omega, by omega⟩
   have i3 : I64 ((loP L v).length : Int) := ⟨by omega, by omega⟩
   have i5 : I64 ((max v 1 : Nat) : Int) := ⟨by omega, by omega⟩
   have i6 : I64 (hiN L n v : Int) := ⟨by omega, by omega⟩
   have i4 : I64 (((loP L v).length : Int) * (max v 1 : Nat)) := by
    rw [← Int.natCast_mul]
    exact ⟨by omega, by omega⟩
   exact ⟨_, rfl, ⟨⟨bo, bc, qo, qc, rfl, ⟨i1, i2, i3, i5, i4, i6⟩, p1, fit_mkS _ _ _, p2, p3, fit_rowOf _ _, p4⟩, hN, l4, l5⟩, hb⟩
theorem vbuild_k (k N : Int) (ao : Option Addr) (xs : List Nat) (cap : Nat) (w : World) (hK : I64 k) (hN : I64 N) (hx : Wd w ao xs) (hf : Fit xs) (hcap : xs.length ≤ cap) (hl : N ≤ 3000 ∧ xs.length ≤ 1048576) (GG : GV w) :
  Calls Tryz.prog 13 #[.int .i64 k, .agg #[.int .i64 N, .slice ao xs.length cap]] w fun e w' => ∃ cs : List Value, e = .returned (.tuple #[.agg cs.toArray, .int .i64 (kE k N xs)]) ∧ KI w' cs (kB k N xs) ∧ Below w.heap.size w w' := by
 obtain ⟨W, hW⟩ : ∃ W, W = ((w.alloc (.cells #[.int .i64 N, .slice ao xs.length cap] 24)).alloc (.cells [Value.int .i64 0, .int .i64 0, .slice none 0 0, .slice none 0 0, .slice none 0 0, .int .i64 0, .int .i64 0, .int .i64 0, .int .i64 0, .slice none 0 0, .int .i64 0, .slice none 0 0, .slice none 0 0, .slice none 0 0, .int .i64 0, .int .i64 0, .int .i64 0, .int .i64 0, .int .i64 0, .slice none 0 0, .int .i64 0, .slice none 0 0].toArray 37)).alloc (.cells [Value.int .i64 0, .int .i64 0, .slice none 0 0, .slice none 0 0, .slice none 0 0, .int .i64 0, .int .i64 0, .int .i64 0, .int .i64 0, .slice none 0 0, .int .i64 0, .slice none 0 0, .slice none 0 0, .slice none 0 0, .int .i64 0, .int .i64 0, .int .i64 0, .int .i64 0, .int .i64 0, .slice none 0 0, .int .i64 0, .slice none 0 0].toArray 37) := ⟨_, rfl⟩
 have bw : Below w.heap.size w W := by rw [hW]; exact ((below_alloc w _).alloc (by simp) _).alloc (by simp; omega) _
 have B0 : Cel W w.heap.size [.int .i64 N, .slice ao xs.length cap] 24 := by rw [hW]; exact ((Cel.new w _ _).alloc _).alloc _
 have B4 : Cel W (w.heap.size + 1) [Value.int .i64 0, .int .i64 0, .slice none 0 0, .slice none 0 0, .slice none 0 0, .int .i64 0, .int .i64 0, .int .i64 0, .int .i64 0, .slice none 0 0, .int .i64 0, .slice none 0 0, .slice none 0 0, .slice none 0 0, .int .i64 0, .int .i64 0, .int .i64 0, .int .i64 0, .int .i64 0, .slice none 0 0, .int .i64 0, .slice none 0 0] 37 := by rw [hW]; exact (Cel.new2 w _ _ _).alloc _
 have B6 : Cel W (w.heap.size + 2) [Value.int .i64 0, .int .i64 0, .slice none 0 0, .slice none 0 0, .slice none 0 0, .int .i64 0, .int .i64 0, .int .i64 0, .int .i64 0, .slice none 0 0, .int .i64 0, .slice none 0 0, .slice none 0 0, .slice none 0 0, .int .i64 0, .int .i64 0, .int .i64 0, .int .i64 0, .int .i64 0, .slice none 0 0, .int .i64 0, .slice none 0 0] 37 := by rw [hW]; exact (Cel.new2 (w.alloc _) _ _ _).at (by simp)
 have hIV := Hid.mk8 info_v
 have H7 : Hid (∀ w0, Below w.heap.size w w0 → Calls Tryz.prog 41 #[.agg #[.int .i64 N, .slice ao xs.length cap]] w0 fun e w' => ∃ cs : List Value, e = .returned (.tuple #[.agg cs.toArray, .int .i64 (kE7 N xs)]) ∧ KI7 w' cs (kB7 N xs) ∧ NF w0.heap.size 2 cs ∧ Below w0.heap.size w0 w') := fun w0 h => p7build_k N ao xs cap w0 hN (hx.keep h) hf hcap hl.2
 have H8 : Hid (∀ w0, Below w.heap.size w w0 → Calls Tryz.prog 42 #[.agg #[.int .i64 N, .slice ao xs.length cap]] w0 fun e w' => ∃ cs : List Value, e = .returned (.tuple #[.agg cs.toArray, .int .i64 (kE8 N xs)]) ∧ KI8 w' cs (kB8 N xs) ∧ NF w0.heap.size 7 cs ∧ Below w0.heap.size w0 w') := fun w0 h => r8build_k N ao xs cap w0 (hx.keep h) hf (GG.kept h)
 have H9 : Hid (∀ w0, Below w.heap.size w w0 → Calls Tryz.prog 43 #[.agg #[.int .i64 N, .slice ao xs.length cap]] w0 fun e w' => ∃ cs : List Value, e = .returned (.tuple #[.agg cs.toArray, .int .i64 (kE9 N xs)]) ∧ KI9 w' cs (kB9 N xs) ∧ Below w0.heap.size w0 w') := fun w0 h => f9build_k N ao xs cap w0 (hx.keep h) hf hl.1
 subst hW
 by_cases q1 : k = 1
 ·subst q1
  have eE : kE 1 N xs = kE7 N xs := rfl
  rw [eE]
  by_cases z : kE7 N xs = 0
  ·have ew : kB 1 N xs = ⟨1, kB7 N xs, n8, n9⟩ := kB_p N xs z
   rw [z] at H7 ⊢
   clear eE z
   go_enter Tryz.func13, Tryz.ntmps13
   go_wp2_with (refine store_cel (w.heap.size + 2) _ _ rfl rfl B6 rfl hIV.out (by simp [Value.oneCell']) ?_)
   intro w1 B6 O1
   replace B0 := O1.cel B0 (by omega)
   replace B4 := O1.cel B4 (by omega)
   replace bw := bw.trans (O1.below (by omega))
   clear O1
   have r0 := B0.cell 0 rfl
   have r1 := B0.cell 1 rfl
   go_wp2_with fail
   refine (H7.out _ bw).mono ?_
   rintro e w2 ⟨cs, rfl, hP, hN2, hb⟩
   have sz := B6.lt
   have sz2 := hb.size
   replace B4 := B4.kept hb
   replace B6 := B6.kept hb
   replace bw := bw.trans (hb.mono bw.size)
   clear hb r0 r1 B0
   go_wp2_with (refine store_part (w.heap.size + 2) [Value.int .i64 1] [Value.int .i64 0, .slice none 0 0, .slice none 0 0, .slice none 0 0] ([Value.int .i64 0, .int .i64 0, .int .i64 0, .int .i64 0, .slice none 0 0, .int .i64 0, .slice none 0 0, .slice none 0 0, .slice none 0 0] ++ [Value.int .i64 0, .int .i64 0, .int .i64 0, .int .i64 0, .int .i64 0, .slice none 0 0, .int .i64 0, .slice none 0 0]) cs rfl rfl B6 hP.arg.four.symm hP.arg.len hP.arg.one ?_)
   intro w3 B7 O3
   have hQ := hP.only hN2 (by omega) B6 (nou_mk (z7arg w).arg.nou (z8a w).nou (z9arg w).arg.nou) O3
   replace B4 := O3.cel B4 (by omega)
   replace bw := bw.trans (O3.below (by omega))
   have B8 : Cel w3 (w.heap.size + 2) (Value.int .i64 1 :: (cs ++ ([Value.int .i64 0, .int .i64 0, .int .i64 0, .int .i64 0, .slice none 0 0, .int .i64 0, .slice none 0 0, .slice none 0 0, .slice none 0 0] ++ [Value.int .i64 0, .int .i64 0, .int .i64 0, .int .i64 0, .int .i64 0, .slice none 0 0, .int .i64 0, .slice none 0 0]))) 37 := B7
   have HL := Hid.mk8 (ka_mk hK hQ.arg (z8a w3) (z9arg w3).arg).len
   have H1 := Hid.mk8 (ka_mk hK hQ.arg (z8a w3) (z9arg w3).arg).one
   have H9 := Hid.mk8 (ka_mk hK hQ.arg (z8a w3) (z9arg w3).arg).nine
   have HQ := Hid.mk8 (And.intro hQ hN2)
   clear B7 O3 B6 hP hN2 hQ
   go_wp2_with (first | refine load_obj (w.heap.size + 2) _ (by rfl) rfl B8 Tryz.underlying37 HL.out ?_ | refine store_cel (w.heap.size + 1) _ _ rfl rfl B4 H9.out HL.out H1.out ?_)
   intro w9 B9 O9
   have HZ := Hid.mk8 (And.intro B9 (And.intro (ki_mk hK (HQ.out.1.only HQ.out.2 (by omega) B4 (nou_mk (z7arg w).arg.nou (z8a w).nou (z9arg w).arg.nou) O9) (z8arg w9 (GG.kept (bw.trans (O9.below (by omega))))) (z9arg w9)) (bw.trans (O9.below (by omega)))))
   clear B9 O9 B8 B4 HQ
   go_wp2
   (try simp only [Exit.inBlock, Exit.then])
   refine bodyPost_ret (result_cel rfl (w.heap.size + 1) _ rfl HZ.out.1 Tryz.underlying37 HL.out) rfl ⟨_, rfl, ?_, HZ.out.2.2⟩
   rw [ew]
   exact HZ.out.2.1
  ·have ew : kB 1 N xs = ⟨0, n7, n8, n9⟩ := kB_none 1 N xs (by rw [eE]; exact z)
   have zz : (kE7 N xs != 0) = true := by simp [z]
   clear eE z
   generalize kE7 N xs = E1 at *
   go_enter Tryz.func13, Tryz.ntmps13
   go_wp2_with (refine store_cel (w.heap.size + 2) _ _ rfl rfl B6 rfl hIV.out (by simp [Value.oneCell']) ?_)
   intro w1 B6 O1
   replace B0 := O1.cel B0 (by omega)
   replace B4 := O1.cel B4 (by omega)
   replace bw := bw.trans (O1.below (by omega))
   clear O1
   have r0 := B0.cell 0 rfl
   have r1 := B0.cell 1 rfl
   go_wp2_with fail
   refine (H7.out _ bw).mono ?_
   rintro e w2 ⟨cs, rfl, hP, hN2, hb⟩
   have sz := B6.lt
   have sz2 := hb.size
   replace B4 := B4.kept hb
   replace B6 := B6.kept hb
   replace bw := bw.trans (hb.mono bw.size)
   clear hb r0 r1 B0
   go_wp2_with (refine store_part (w.heap.size + 2) [Value.int .i64 1] [Value.int .i64 0, .slice none 0 0, .slice none 0 0, .slice none 0 0] ([Value.int .i64 0, .int .i64 0, .int .i64 0, .int .i64 0, .slice none 0 0, .int .i64 0, .slice none 0 0, .slice none 0 0, .slice none 0 0] ++ [Value.int .i64 0, .int .i64 0, .int .i64 0, .int .i64 0, .int .i64 0, .slice none 0 0, .int .i64 0, .slice none 0 0]) cs rfl rfl B6 hP.arg.four.symm hP.arg.len hP.arg.one ?_)
   intro w3 B7 O3
   replace B4 := O3.cel B4 (by omega)
   replace bw := bw.trans (O3.below (by omega))
   clear B7 O3 B6 hP hN2
   go_wp2_with (refine store_cel (w.heap.size + 1) _ _ rfl rfl B4 rfl hIV.out (by simp [Value.oneCell']) ?_)
   intro w9 B9 O9
   have HZ := Hid.mk8 (And.intro B9 (bw.trans (O9.below (by omega))))
   clear B9 O9
   go_wp2
   (try simp only [Exit.inBlock, Exit.then])
   refine bodyPost_ret (result_cel rfl (w.heap.size + 1) _ rfl HZ.out.1 Tryz.underlying37 hIV.out) rfl ⟨_, rfl, ?_, HZ.out.2⟩
   rw [ew]
   exact ki_mk i64_0 (z7arg _) (z8arg _ (GG.kept HZ.out.2)) (z9arg _)
 by_cases q2 : k = 2
 ·subst q2
  have eE : kE 2 N xs = kE8 N xs := rfl
  rw [eE]
  by_cases z : kE8 N xs = 0
  ·have ew : kB 2 N xs = ⟨2, n7, kB8 N xs, n9⟩ := kB_r N xs z
   rw [z] at H8 ⊢
   clear eE z
   go_enter Tryz.func13, Tryz.ntmps13
   go_wp2_with (refine store_cel (w.heap.size + 2) _ _ rfl rfl B6 rfl hIV.out (by simp [Value.oneCell']) ?_)
   intro w1 B6 O1
   replace B0 := O1.cel B0 (by omega)
   replace B4 := O1.cel B4 (by omega)
   replace bw := bw.trans (O1.below (by omega))
   clear O1
   have r0 := B0.cell 0 rfl
   have r1 := B0.cell 1 rfl
   go_wp2_with fail
   refine (H8.out _ bw).mono ?_
   rintro e w2 ⟨cs, rfl, hP, hN2, hb⟩
   have sz := B6.lt
   have sz2 := hb.size
   replace B4 := B4.kept hb
   replace B6 := B6.kept hb
   replace bw := bw.trans (hb.mono bw.size)
   clear hb r0 r1 B0
   go_wp2_with (refine store_part (w.heap.size + 2) (Value.int .i64 2 :: [Value.int .i64 0, .slice none 0 0, .slice none 0 0, .slice none 0 0]) [Value.int .i64 0, .int .i64 0, .int .i64 0, .int .i64 0, .slice none 0 0, .int .i64 0, .slice none 0 0, .slice none 0 0, .slice none 0 0] [Value.int .i64 0, .int .i64 0, .int .i64 0, .int .i64 0, .int .i64 0, .slice none 0 0, .int .i64 0, .slice none 0 0] cs rfl rfl B6 hP.arg.nine hP.arg.len hP.arg.one ?_)
   intro w3 B7 O3
   have hQ := hP.only hN2 (by omega) B6 (nou_mk (z7arg w).arg.nou (z8a w).nou (z9arg w).arg.nou) O3 (GG.kept (bw.trans (O3.below (by omega))))
   replace B4 := O3.cel B4 (by omega)
   replace bw := bw.trans (O3.below (by omega))
   have B8 : Cel w3 (w.heap.size + 2) (Value.int .i64 2 :: ([Value.int .i64 0, .slice none 0 0, .slice none 0 0, .slice none 0 0] ++ (cs ++ [Value.int .i64 0, .int .i64 0, .int .i64 0, .int .i64 0, .int .i64 0, .slice none 0 0, .int .i64 0, .slice none 0 0]))) 37 := B7
   have HL := Hid.mk8 (ki_mk hK (z7arg w3) hQ (z9arg w3)).arg.len
   have H1 := Hid.mk8 (ki_mk hK (z7arg w3) hQ (z9arg w3)).arg.one
   have H9 := Hid.mk8 (ki_mk hK (z7arg w3) hQ (z9arg w3)).arg.nine
   have HQ := Hid.mk8 (And.intro hQ hN2)
   clear B7 O3 B6 hP hN2 hQ
   go_wp2_with (first | refine load_obj (w.heap.size + 2) _ (by rfl) rfl B8 Tryz.underlying37 HL.out ?_ | refine store_cel (w.heap.size + 1) _ _ rfl rfl B4 H9.out HL.out H1.out ?_)
   intro w9 B9 O9
   have HZ := Hid.mk8 (And.intro B9 (And.intro (ki_mk hK (z7arg w9) (HQ.out.1.only HQ.out.2 (by omega) B4 (nou_mk (z7arg w).arg.nou (z8a w).nou (z9arg w).arg.nou) O9 (GG.kept (bw.trans (O9.below (by omega))))) (z9arg w9)) (bw.trans (O9.below (by omega)))))
   clear B9 O9 B8 B4 HQ
   go_wp2
   (try simp only [Exit.inBlock, Exit.then])
   refine bodyPost_ret (result_cel rfl (w.heap.size + 1) _ rfl HZ.out.1 Tryz.underlying37 HL.out) rfl ⟨_, rfl, ?_, HZ.out.2.2⟩
   rw [ew]
   exact HZ.out.2.1
  ·have ew : kB 2 N xs = ⟨0, n7, n8, n9⟩ := kB_none 2 N xs (by rw [eE]; exact z)
   have zz : (kE8 N xs != 0) = true := by simp [z]
   clear eE z
   generalize kE8 N xs = E1 at *
   go_enter Tryz.func13, Tryz.ntmps13
   go_wp2_with (refine store_cel (w.heap.size + 2) _ _ rfl rfl B6 rfl hIV.out (by simp [Value.oneCell']) ?_)
   intro w1 B6 O1
   replace B0 := O1.cel B0 (by omega)
   replace B4 := O1.cel B4 (by omega)
   replace bw := bw.trans (O1.below (by omega))
   clear O1
   have r0 := B0.cell 0 rfl
   have r1 := B0.cell 1 rfl
   go_wp2_with fail
   refine (H8.out _ bw).mono ?_
   rintro e w2 ⟨cs, rfl, hP, hN2, hb⟩
   have sz := B6.lt
   have sz2 := hb.size
   replace B4 := B4.kept hb
   replace B6 := B6.kept hb
   replace bw := bw.trans (hb.mono bw.size)
   clear hb r0 r1 B0
   go_wp2_with (refine store_part (w.heap.size + 2) (Value.int .i64 2 :: [Value.int .i64 0, .slice none 0 0, .slice none 0 0, .slice none 0 0]) [Value.int .i64 0, .int .i64 0, .int .i64 0, .int .i64 0, .slice none 0 0, .int .i64 0, .slice none 0 0, .slice none 0 0, .slice none 0 0] [Value.int .i64 0, .int .i64 0, .int .i64 0, .int .i64 0, .int .i64 0, .slice none 0 0, .int .i64 0, .slice none 0 0] cs rfl rfl B6 hP.arg.nine hP.arg.len hP.arg.one ?_)
   intro w3 B7 O3
   replace B4 := O3.cel B4 (by omega)
   replace bw := bw.trans (O3.below (by omega))
   clear B7 O3 B6 hP hN2
   go_wp2_with (refine store_cel (w.heap.size + 1) _ _ rfl rfl B4 rfl hIV.out (by simp [Value.oneCell']) ?_)
   intro w9 B9 O9
   have HZ := Hid.mk8 (And.intro B9 (bw.trans (O9.below (by omega))))
   clear B9 O9
   go_wp2
   (try simp only [Exit.inBlock, Exit.then])
   refine bodyPost_ret (result_cel rfl (w.heap.size + 1) _ rfl HZ.out.1 Tryz.underlying37 hIV.out) rfl ⟨_, rfl, ?_, HZ.out.2⟩
   rw [ew]
   exact ki_mk i64_0 (z7arg _) (z8arg _ (GG.kept HZ.out.2)) (z9arg _)
 by_cases q3 : k = 3
 ·subst q3
  have eE : kE 3 N xs = kE9 N xs := rfl
  rw [eE]
  by_cases z : kE9 N xs = 0
  ·have ew : kB 3 N xs = ⟨3, n7, n8, kB9 N xs⟩ := kB_f N xs z
   rw [z] at H9 ⊢
   clear eE z
   go_enter Tryz.func13, Tryz.ntmps13
   go_wp2_with (refine store_cel (w.heap.size + 2) _ _ rfl rfl B6 rfl hIV.out (by simp [Value.oneCell']) ?_)
   intro w1 B6 O1
   replace B0 := O1.cel B0 (by omega)
   replace B4 := O1.cel B4 (by omega)
   replace bw := bw.trans (O1.below (by omega))
   clear O1
   have r0 := B0.cell 0 rfl
   have r1 := B0.cell 1 rfl
   go_wp2_with fail
   refine (H9.out _ bw).mono ?_
   rintro e w2 ⟨cs, rfl, hP, hb⟩
   have sz := B6.lt
   have sz2 := hb.size
   replace B4 := B4.kept hb
   replace B6 := B6.kept hb
   replace bw := bw.trans (hb.mono bw.size)
   clear hb r0 r1 B0
   go_wp2_with (refine store_part (w.heap.size + 2) (Value.int .i64 3 :: ([Value.int .i64 0, .slice none 0 0, .slice none 0 0, .slice none 0 0] ++ [Value.int .i64 0, .int .i64 0, .int .i64 0, .int .i64 0, .slice none 0 0, .int .i64 0, .slice none 0 0, .slice none 0 0, .slice none 0 0])) [Value.int .i64 0, .int .i64 0, .int .i64 0, .int .i64 0, .int .i64 0, .slice none 0 0, .int .i64 0, .slice none 0 0] [] cs rfl rfl B6 hP.arg.nine hP.arg.len hP.arg.one ?_)
   intro w3 B7 O3
   have hQ := hP.only B6 (nou_mk (z7arg w).arg.nou (z8a w).nou (z9arg w).arg.nou) O3
   replace B4 := O3.cel B4 (by omega)
   replace bw := bw.trans (O3.below (by omega))
   have B8 : Cel w3 (w.heap.size + 2) (Value.int .i64 3 :: ([Value.int .i64 0, .slice none 0 0, .slice none 0 0, .slice none 0 0] ++ ([Value.int .i64 0, .int .i64 0, .int .i64 0, .int .i64 0, .slice none 0 0, .int .i64 0, .slice none 0 0, .slice none 0 0, .slice none 0 0] ++ cs))) 37 := by simpa using B7
   have HL := Hid.mk8 (ka_mk hK (z7arg w3).arg (z8a w3) hQ.arg).len
   have H1 := Hid.mk8 (ka_mk hK (z7arg w3).arg (z8a w3) hQ.arg).one
   have H9 := Hid.mk8 (ka_mk hK (z7arg w3).arg (z8a w3) hQ.arg).nine
   have HQ := Hid.mk8 (And.intro hQ trivial)
   clear B7 O3 B6 hP hQ
   go_wp2_with (first | refine load_obj (w.heap.size + 2) _ (by rfl) rfl B8 Tryz.underlying37 HL.out ?_ | refine store_cel (w.heap.size + 1) _ _ rfl rfl B4 H9.out HL.out H1.out ?_)
   intro w9 B9 O9
   have HZ := Hid.mk8 (And.intro B9 (And.intro (ki_mk hK (z7arg w9) (z8arg w9 (GG.kept (bw.trans (O9.below (by omega))))) (HQ.out.1.only B4 (nou_mk (z7arg w).arg.nou (z8a w).nou (z9arg w).arg.nou) O9)) (bw.trans (O9.below (by omega)))))
   clear B9 O9 B8 B4 HQ
   go_wp2
   (try simp only [Exit.inBlock, Exit.then])
   refine bodyPost_ret (result_cel rfl (w.heap.size + 1) _ rfl HZ.out.1 Tryz.underlying37 HL.out) rfl ⟨_, rfl, ?_, HZ.out.2.2⟩
   rw [ew]
   exact HZ.out.2.1
  ·have ew : kB 3 N xs = ⟨0, n7, n8, n9⟩ := kB_none 3 N xs (by rw [eE]; exact z)
   have zz : (kE9 N xs != 0) = true := by simp [z]
   clear eE z
   generalize kE9 N xs = E1 at *
   go_enter Tryz.func13, Tryz.ntmps13
   go_wp2_with (refine store_cel (w.heap.size + 2) _ _ rfl rfl B6 rfl hIV.out (by simp [Value.oneCell']) ?_)
   intro w1 B6 O1
   replace B0 := O1.cel B0 (by omega)
   replace B4 := O1.cel B4 (by omega)
   replace bw := bw.trans (O1.below (by omega))
   clear O1
   have r0 := B0.cell 0 rfl
   have r1 := B0.cell 1 rfl
   go_wp2_with fail
   refine (H9.out _ bw).mono ?_
   rintro e w2 ⟨cs, rfl, hP, hb⟩
   have sz := B6.lt
   have sz2 := hb.size
   replace B4 := B4.kept hb
   replace B6 := B6.kept hb
   replace bw := bw.trans (hb.mono bw.size)
   clear hb r0 r1 B0
   go_wp2_with (refine store_part (w.heap.size + 2) (Value.int .i64 3 :: ([Value.int .i64 0, .slice none 0 0, .slice none 0 0, .slice none 0 0] ++ [Value.int .i64 0, .int .i64 0, .int .i64 0, .int .i64 0, .slice none 0 0, .int .i64 0, .slice none 0 0, .slice none 0 0, .slice none 0 0])) [Value.int .i64 0, .int .i64 0, .int .i64 0, .int .i64 0, .int .i64 0, .slice none 0 0, .int .i64 0, .slice none 0 0] [] cs rfl rfl B6 hP.arg.nine hP.arg.len hP.arg.one ?_)
   intro w3 B7 O3
   replace B4 := O3.cel B4 (by omega)
   replace bw := bw.trans (O3.below (by omega))
   clear B7 O3 B6 hP
   go_wp2_with (refine store_cel (w.heap.size + 1) _ _ rfl rfl B4 rfl hIV.out (by simp [Value.oneCell']) ?_)
   intro w9 B9 O9
   have HZ := Hid.mk8 (And.intro B9 (bw.trans (O9.below (by omega))))
   clear B9 O9
   go_wp2
   (try simp only [Exit.inBlock, Exit.then])
   refine bodyPost_ret (result_cel rfl (w.heap.size + 1) _ rfl HZ.out.1 Tryz.underlying37 hIV.out) rfl ⟨_, rfl, ?_, HZ.out.2⟩
   rw [ew]
   exact ki_mk i64_0 (z7arg _) (z8arg _ (GG.kept HZ.out.2)) (z9arg _)
 have eE : kE k N xs = 5 := by unfold kE; rw [if_neg q1, if_neg q2, if_neg q3]
 have ew : kB k N xs = ⟨0, n7, n8, n9⟩ := kB_none k N xs (by rw [eE]; decide)
 rw [eE]
 have d1 : (k == 1) = false := by simp [q1]
 have d2 : (k == 2) = false := by simp [q2]
 have d3 : (k == 3) = false := by simp [q3]
 clear eE
 go_enter Tryz.func13, Tryz.ntmps13
 go_wp2_with (refine store_cel (w.heap.size + 2) _ _ rfl rfl B6 rfl hIV.out (by simp [Value.oneCell']) ?_)
 intro w1 B6 O1
 replace B0 := O1.cel B0 (by omega)
 replace B4 := O1.cel B4 (by omega)
 replace bw := bw.trans (O1.below (by omega))
 clear O1
 have r0 := B0.cell 0 rfl
 have r1 := B0.cell 1 rfl
 go_wp2_with (refine store_cel (w.heap.size + 1) _ _ rfl rfl B4 rfl hIV.out (by simp [Value.oneCell']) ?_)
 intro w9 B9 O9
 have HZ := Hid.mk8 (And.intro B9 (bw.trans (O9.below (by omega))))
 clear B9 O9
 go_wp2
 (try simp only [Exit.inBlock, Exit.then])
 refine bodyPost_ret (result_cel rfl (w.heap.size + 1) _ rfl HZ.out.1 Tryz.underlying37 hIV.out) rfl ⟨_, rfl, ?_, HZ.out.2⟩
 rw [ew]
 exact ki_mk i64_0 (z7arg _) (z8arg _ (GG.kept HZ.out.2)) (z9arg _)
theorem norw1 (N : Int) (n : Nat) : norw [(N, n)] = (decide (N = 0) && decide ((n : Int) = 0)) := by simp [norw]
theorem norw2 (p q : Int × Nat) : norw [p, q] = (norw [p] && norw [q]) := by simp [norw]
theorem none_c (N : Int) (ao : Option Addr) (n cap : Nat) (w : World) :
  Calls Tryz.prog 152 #[.agg #[.int .i64 N, .slice ao n cap]] w fun e w' => e = .returned (.bool (norw [(N, n)])) ∧ Below w.heap.size w w' := by
 rw [norw1]
 by_cases q : N = 0
 ·subst q
  by_cases r : (n : Int) = 0
  ·have d : ((n : Int) == 0) = true := by simp only [r]; rfl
   rw [decide_eq_true r]
   go_enter Tryz.func152, Tryz.ntmps152
   go_wp2
   go_ret
   exact ⟨rfl, below_alloc _ _⟩
  ·have d : ((n : Int) == 0) = false := beq_eq_false_iff_ne.2 r
   rw [decide_eq_false r]
   go_enter Tryz.func152, Tryz.ntmps152
   go_wp2
   go_ret
   exact ⟨rfl, below_alloc _ _⟩
 ·have d : (N == 0) = false := beq_eq_false_iff_ne.2 q
  rw [decide_eq_false q]
  go_enter Tryz.func152, Tryz.ntmps152
  go_wp2
  go_ret
  exact ⟨rfl, below_alloc _ _⟩
def nons (k V M : Int) (n : Nat) : Bool := decide (k = 0) && (decide (V = 0) && norw [(M, n)])
theorem nones_c (k V M : Int) (ao : Option Addr) (n cap : Nat) (w : World) :
  Calls Tryz.prog 153 #[.agg #[.int .i64 k, .int .i64 V, .int .i64 M, .slice ao n cap]] w fun e w' => e = .returned (.bool (nons k V M n)) ∧ Below w.heap.size w w' := by
 unfold nons
 by_cases q : k = 0
 ·subst q
  by_cases r : V = 0
  ·subst r
   have C := none_c M ao n cap
   generalize norw [(M, n)] = R at *
   go_enter Tryz.func153, Tryz.ntmps153
   go_wp2_with fail
   refine (C _).mono ?_
   rintro e w1 ⟨rfl, hb⟩
   have bw := (below_alloc w _).trans (hb.mono (by simp))
   go_wp2
   go_ret
   exact ⟨by cases R <;> rfl, bw⟩
  ·have d : (V == 0) = false := beq_eq_false_iff_ne.2 r
   rw [decide_eq_false r]
   go_enter Tryz.func153, Tryz.ntmps153
   go_wp2
   go_ret
   exact ⟨rfl, below_alloc _ _⟩
 ·have d : (k == 0) = false := beq_eq_false_iff_ne.2 q
  rw [decide_eq_false q]
  go_enter Tryz.func153, Tryz.ntmps153
  go_wp2
  go_ret
  exact ⟨rfl, below_alloc _ _⟩
theorem zero_c (cs : List Value) (a : RA) (w : World) (h : KI w cs a) :
  Calls Tryz.prog 103 #[.agg cs.toArray] w fun e w' => e = .returned (.bool (kZs a)) ∧ Below w.heap.size w w' := by
 obtain ⟨⟨cp, cr, cf, rfl, hK, h1, h2, h3⟩, sm⟩ := h
 have s1 := sm.p2
 have s2 := sm.p3
 have s3 := sm.r3
 have s4 := sm.r4
 clear sm
 obtain ⟨K, ⟨N, xs, S, T⟩, ⟨N8, k8, V8, M8, x8, L8, y8, S8, T8⟩, ⟨N9, M9, k9, V9, L9, x9, H9, y9⟩⟩ := a
 dsimp only at *
 obtain ⟨ao, cap, so, sc, tO, tc, rfl, -⟩ := h1
 obtain ⟨a8, e8, q8, d8, s8, f8, t8, g8, rfl, -⟩ := h2
 obtain ⟨a9, e9, q9, d9, rfl, -⟩ := h3
 dsimp only at *
 obtain ⟨Z, hZ⟩ : ∃ Z, Hid (Z = kZs ⟨K, ⟨N, xs, S, T⟩, ⟨N8, k8, V8, M8, x8, L8, y8, S8, T8⟩, ⟨N9, M9, k9, V9, L9, x9, H9, y9⟩⟩) := ⟨_, rfl⟩
 obtain ⟨A, hA⟩ : ∃ A, Hid (A = z7 ⟨N, xs, S, T⟩) := ⟨_, rfl⟩
 obtain ⟨B, hB⟩ : ∃ B, Hid (B = z8 ⟨N8, k8, V8, M8, x8, L8, y8, S8, T8⟩) := ⟨_, rfl⟩
 obtain ⟨C, hC⟩ : ∃ C, Hid (C = z9 ⟨N9, M9, k9, V9, L9, x9, H9, y9⟩) := ⟨_, rfl⟩
 have hZ2 : Hid (Z = ((decide (K = 1) || A) && ((decide (K = 2) || B) && (decide (K = 3) || C)))) := by
  show Z = _
  rw [hZ.out, hA.out, hB.out, hC.out]
  rfl
 rw [← hZ.out]
 have EA : Hid (A = (norw [(N, xs.length)] && decide ((S.length : Int) + (T.length : Int) = 0))) := by
  show A = _
  rw [hA.out]
  unfold z7
  dsimp only
  congr 1
  rw [← Bool.decide_and]
  congr 1
  simp only [eq_iff_iff]
  omega
 have EB : Hid (B = (decide (N8 = 0) && (nons k8 V8 M8 x8.length && (norw [(L8, y8.length)] && decide ((S8.length : Int) + (T8.length : Int) = 0))))) := by
  show B = _
  rw [hB.out]
  unfold z8 nons
  dsimp only
  rw [norw2, show decide ((S8.length : Int) + (T8.length : Int) = 0) = (decide ((S8.length : Int) = 0) && decide ((T8.length : Int) = 0)) by rw [← Bool.decide_and]; congr 1; simp only [eq_iff_iff]; omega]
  simp only [Bool.and_assoc]
 have EC : Hid (C = (decide (N9 = 0) && (decide (M9 = 0) && (nons k9 V9 L9 x9.length && norw [(H9, y9.length)])))) := by
  show C = _
  rw [hC.out]
  unfold z9 nons
  dsimp only
  rw [norw2]
  simp only [Bool.and_assoc]
 clear hZ hA hB hC
 have wS : IntKind.i64.wrap ((S.length : Int) + (T.length : Int)) = (S.length : Int) + (T.length : Int) := by rw [IntKind.wrap_i64]; omega
 have wS8 : IntKind.i64.wrap ((S8.length : Int) + (T8.length : Int)) = (S8.length : Int) + (T8.length : Int) := by rw [IntKind.wrap_i64]; omega
 have N1 : Hid (∀ w0 : World, Calls Tryz.prog 152 #[.agg #[.int .i64 N, .slice ao xs.length cap]] w0 fun e w' => e = .returned (.bool (norw [(N, xs.length)])) ∧ Below w0.heap.size w0 w') := fun w0 => none_c N ao xs.length cap w0
 have N2 : Hid (∀ w0 : World, Calls Tryz.prog 153 #[.agg #[.int .i64 k8, .int .i64 V8, .int .i64 M8, .slice a8 x8.length e8]] w0 fun e w' => e = .returned (.bool (nons k8 V8 M8 x8.length)) ∧ Below w0.heap.size w0 w') := fun w0 => nones_c k8 V8 M8 a8 x8.length e8 w0
 have N3 : Hid (∀ w0 : World, Calls Tryz.prog 152 #[.agg #[.int .i64 L8, .slice q8 y8.length d8]] w0 fun e w' => e = .returned (.bool (norw [(L8, y8.length)])) ∧ Below w0.heap.size w0 w') := fun w0 => none_c L8 q8 y8.length d8 w0
 have N4 : Hid (∀ w0 : World, Calls Tryz.prog 153 #[.agg #[.int .i64 k9, .int .i64 V9, .int .i64 L9, .slice a9 x9.length e9]] w0 fun e w' => e = .returned (.bool (nons k9 V9 L9 x9.length)) ∧ Below w0.heap.size w0 w') := fun w0 => nones_c k9 V9 L9 a9 x9.length e9 w0
 have N5 : Hid (∀ w0 : World, Calls Tryz.prog 152 #[.agg #[.int .i64 H9, .slice q9 y9.length d9]] w0 fun e w' => e = .returned (.bool (norw [(H9, y9.length)])) ∧ Below w0.heap.size w0 w') := fun w0 => none_c H9 q9 y9.length d9 w0
 have B0 : Cel (w.alloc (.cells ([.int .i64 K, .int .i64 N, .slice ao xs.length cap, .slice so S.length sc, .slice tO T.length tc, .int .i64 N8, .int .i64 k8, .int .i64 V8, .int .i64 M8, .slice a8 x8.length e8, .int .i64 L8, .slice q8 y8.length d8, .slice s8 S8.length f8, .slice t8 T8.length g8, .int .i64 N9, .int .i64 M9, .int .i64 k9, .int .i64 V9, .int .i64 L9, .slice a9 x9.length e9, .int .i64 H9, .slice q9 y9.length d9] : List Value).toArray 37)) w.heap.size [.int .i64 K, .int .i64 N, .slice ao xs.length cap, .slice so S.length sc, .slice tO T.length tc, .int .i64 N8, .int .i64 k8, .int .i64 V8, .int .i64 M8, .slice a8 x8.length e8, .int .i64 L8, .slice q8 y8.length d8, .slice s8 S8.length f8, .slice t8 T8.length g8, .int .i64 N9, .int .i64 M9, .int .i64 k9, .int .i64 V9, .int .i64 L9, .slice a9 x9.length e9, .int .i64 H9, .slice q9 y9.length d9] 37 := Cel.new w _ _
 have bw : Below w.heap.size w (w.alloc (.cells ([.int .i64 K, .int .i64 N, .slice ao xs.length cap, .slice so S.length sc, .slice tO T.length tc, .int .i64 N8, .int .i64 k8, .int .i64 V8, .int .i64 M8, .slice a8 x8.length e8, .int .i64 L8, .slice q8 y8.length d8, .slice s8 S8.length f8, .slice t8 T8.length g8, .int .i64 N9, .int .i64 M9, .int .i64 k9, .int .i64 V9, .int .i64 L9, .slice a9 x9.length e9, .int .i64 H9, .slice q9 y9.length d9] : List Value).toArray 37)) := below_alloc w _
 generalize hsum : (S.length : Int) + (T.length : Int) = s7 at *
 generalize hsum8 : (S8.length : Int) + (T8.length : Int) = s78 at *
 go_enter Tryz.func103, Tryz.ntmps103
 go_upto_region 1 with fail
 go_cut [3] (fun s3 wx => s3 = .bool A ∧ Cel wx w.heap.size [.int .i64 K, .int .i64 N, .slice ao xs.length cap, .slice so S.length sc, .slice tO T.length tc, .int .i64 N8, .int .i64 k8, .int .i64 V8, .int .i64 M8, .slice a8 x8.length e8, .int .i64 L8, .slice q8 y8.length d8, .slice s8 S8.length f8, .slice t8 T8.length g8, .int .i64 N9, .int .i64 M9, .int .i64 k9, .int .i64 V9, .int .i64 L9, .slice a9 x9.length e9, .int .i64 H9, .slice q9 y9.length d9] 37 ∧ Below w.heap.size w wx)
 case first =>
  have c1 := B0.cell 1 rfl
  have c2 := B0.cell 2 rfl
  have c3 := B0.cell 3 rfl
  have c4 := B0.cell 4 rfl
  cases hn : norw [(N, xs.length)] with
  | false =>
   rw [hn] at N1
   go_wp2_with fail
   refine (N1.out _).mono ?_
   rintro e w1 ⟨rfl, hb⟩
   replace B0 := B0.kept hb
   replace bw := bw.trans (hb.mono bw.size)
   clear hb c1 c2 c3 c4
   have c1 := B0.cell 1 rfl
   have c2 := B0.cell 2 rfl
   have c3 := B0.cell 3 rfl
   have c4 := B0.cell 4 rfl
   go_wp2_with fail
   go_meet
   refine ⟨?_, B0, bw⟩
   rw [EA.out]
   simp [hn]
  | true =>
   rw [hn] at N1
   by_cases q : s7 = 0
   ·have d : (s7 == 0) = true := by simp [q]
    go_wp2_with fail
    refine (N1.out _).mono ?_
    rintro e w1 ⟨rfl, hb⟩
    replace B0 := B0.kept hb
    replace bw := bw.trans (hb.mono bw.size)
    clear hb c1 c2 c3 c4
    have c1 := B0.cell 1 rfl
    have c2 := B0.cell 2 rfl
    have c3 := B0.cell 3 rfl
    have c4 := B0.cell 4 rfl
    go_wp2_with fail
    go_meet
    refine ⟨?_, B0, bw⟩
    rw [EA.out]
    simp [hn, q]
   ·have d : (s7 == 0) = false := by simp [q]
    go_wp2_with fail
    refine (N1.out _).mono ?_
    rintro e w1 ⟨rfl, hb⟩
    replace B0 := B0.kept hb
    replace bw := bw.trans (hb.mono bw.size)
    clear hb c1 c2 c3 c4
    have c1 := B0.cell 1 rfl
    have c2 := B0.cell 2 rfl
    have c3 := B0.cell 3 rfl
    have c4 := B0.cell 4 rfl
    go_wp2_with fail
    go_meet
    refine ⟨?_, B0, bw⟩
    rw [EA.out]
    simp [hn, q]
 case rest =>
 obtain ⟨rfl, B1, bw1⟩ := hcut
 clear N1 EA B0 bw wS hsum
 have B0 := B1
 have bw := bw1
 clear B1 bw1
 go_upto_region 2 with fail
 go_cut [4] (fun s4 wx => s4 = .bool B ∧ Cel wx w.heap.size [.int .i64 K, .int .i64 N, .slice ao xs.length cap, .slice so S.length sc, .slice tO T.length tc, .int .i64 N8, .int .i64 k8, .int .i64 V8, .int .i64 M8, .slice a8 x8.length e8, .int .i64 L8, .slice q8 y8.length d8, .slice s8 S8.length f8, .slice t8 T8.length g8, .int .i64 N9, .int .i64 M9, .int .i64 k9, .int .i64 V9, .int .i64 L9, .slice a9 x9.length e9, .int .i64 H9, .slice q9 y9.length d9] 37 ∧ Below w.heap.size w wx)
 case first =>
  have c5 := B0.cell 5 rfl
  have c6 := B0.cell 6 rfl
  have c7 := B0.cell 7 rfl
  have c8 := B0.cell 8 rfl
  have c9 := B0.cell 9 rfl
  have c10 := B0.cell 10 rfl
  have c11 := B0.cell 11 rfl
  have c12 := B0.cell 12 rfl
  have c13 := B0.cell 13 rfl
  by_cases q : N8 = 0
  rotate_left
  ·have d : (N8 == 0) = false := by simp [q]
   go_wp2_with fail
   go_meet
   refine ⟨?_, B0, bw⟩
   rw [EB.out]
   simp [q]
  subst q
  cases hn : nons k8 V8 M8 x8.length with
  | false =>
   rw [hn] at N2
   go_wp2_with fail
   refine (N2.out _).mono ?_
   rintro e w1 ⟨rfl, hb⟩
   replace B0 := B0.kept hb
   replace bw := bw.trans (hb.mono bw.size)
   clear hb c5 c6 c7 c8 c9 c10 c11 c12 c13
   have c5 := B0.cell 5 rfl
   have c6 := B0.cell 6 rfl
   have c7 := B0.cell 7 rfl
   have c8 := B0.cell 8 rfl
   have c9 := B0.cell 9 rfl
   have c10 := B0.cell 10 rfl
   have c11 := B0.cell 11 rfl
   have c12 := B0.cell 12 rfl
   have c13 := B0.cell 13 rfl
   go_wp2_with fail
   go_meet
   refine ⟨?_, B0, bw⟩
   rw [EB.out]
   simp [hn]
  | true =>
   rw [hn] at N2
   cases hm : norw [(L8, y8.length)] with
   | false =>
    rw [hm] at N3
    go_wp2_with fail
    refine (N2.out _).mono ?_
    rintro e w1 ⟨rfl, hb⟩
    replace B0 := B0.kept hb
    replace bw := bw.trans (hb.mono bw.size)
    clear hb c5 c6 c7 c8 c9 c10 c11 c12 c13
    have c5 := B0.cell 5 rfl
    have c6 := B0.cell 6 rfl
    have c7 := B0.cell 7 rfl
    have c8 := B0.cell 8 rfl
    have c9 := B0.cell 9 rfl
    have c10 := B0.cell 10 rfl
    have c11 := B0.cell 11 rfl
    have c12 := B0.cell 12 rfl
    have c13 := B0.cell 13 rfl
    go_wp2_with fail
    refine (N3.out _).mono ?_
    rintro e w2 ⟨rfl, hb⟩
    replace B0 := B0.kept hb
    replace bw := bw.trans (hb.mono bw.size)
    clear hb c5 c6 c7 c8 c9 c10 c11 c12 c13
    have c5 := B0.cell 5 rfl
    have c6 := B0.cell 6 rfl
    have c7 := B0.cell 7 rfl
    have c8 := B0.cell 8 rfl
    have c9 := B0.cell 9 rfl
    have c10 := B0.cell 10 rfl
    have c11 := B0.cell 11 rfl
    have c12 := B0.cell 12 rfl
    have c13 := B0.cell 13 rfl
    go_wp2_with fail
    go_meet
    refine ⟨?_, B0, bw⟩
    rw [EB.out]
    simp [hn, hm]
   | true =>
    rw [hm] at N3
    by_cases q : s78 = 0
    ·have d : (s78 == 0) = true := by simp [q]
     go_wp2_with fail
     refine (N2.out _).mono ?_
     rintro e w1 ⟨rfl, hb⟩
     replace B0 := B0.kept hb
     replace bw := bw.trans (hb.mono bw.size)
     clear hb c5 c6 c7 c8 c9 c10 c11 c12 c13
     have c5 := B0.cell 5 rfl
     have c6 := B0.cell 6 rfl
     have c7 := B0.cell 7 rfl
     have c8 := B0.cell 8 rfl
     have c9 := B0.cell 9 rfl
     have c10 := B0.cell 10 rfl
     have c11 := B0.cell 11 rfl
     have c12 := B0.cell 12 rfl
     have c13 := B0.cell 13 rfl
     go_wp2_with fail
     refine (N3.out _).mono ?_
     rintro e w2 ⟨rfl, hb⟩
     replace B0 := B0.kept hb
     replace bw := bw.trans (hb.mono bw.size)
     clear hb c5 c6 c7 c8 c9 c10 c11 c12 c13
     have c5 := B0.cell 5 rfl
     have c6 := B0.cell 6 rfl
     have c7 := B0.cell 7 rfl
     have c8 := B0.cell 8 rfl
     have c9 := B0.cell 9 rfl
     have c10 := B0.cell 10 rfl
     have c11 := B0.cell 11 rfl
     have c12 := B0.cell 12 rfl
     have c13 := B0.cell 13 rfl
     go_wp2_with fail
     go_meet
     refine ⟨?_, B0, bw⟩
     rw [EB.out]
     simp [hn, hm, q]
    ·have d : (s78 == 0) = false := by simp [q]
     go_wp2_with fail
     refine (N2.out _).mono ?_
     rintro e w1 ⟨rfl, hb⟩
     replace B0 := B0.kept hb
     replace bw := bw.trans (hb.mono bw.size)
     clear hb c5 c6 c7 c8 c9 c10 c11 c12 c13
     have c5 := B0.cell 5 rfl
     have c6 := B0.cell 6 rfl
     have c7 := B0.cell 7 rfl
     have c8 := B0.cell 8 rfl
     have c9 := B0.cell 9 rfl
     have c10 := B0.cell 10 rfl
     have c11 := B0.cell 11 rfl
     have c12 := B0.cell 12 rfl
     have c13 := B0.cell 13 rfl
     go_wp2_with fail
     refine (N3.out _).mono ?_
     rintro e w2 ⟨rfl, hb⟩
     replace B0 := B0.kept hb
     replace bw := bw.trans (hb.mono bw.size)
     clear hb c5 c6 c7 c8 c9 c10 c11 c12 c13
     have c5 := B0.cell 5 rfl
     have c6 := B0.cell 6 rfl
     have c7 := B0.cell 7 rfl
     have c8 := B0.cell 8 rfl
     have c9 := B0.cell 9 rfl
     have c10 := B0.cell 10 rfl
     have c11 := B0.cell 11 rfl
     have c12 := B0.cell 12 rfl
     have c13 := B0.cell 13 rfl
     go_wp2_with fail
     go_meet
     refine ⟨?_, B0, bw⟩
     rw [EB.out]
     simp [hn, hm, q]
 case rest =>
 obtain ⟨rfl, B1, bw1⟩ := hcut
 clear N2 N3 EB B0 bw wS8 hsum8
 have B0 := B1
 have bw := bw1
 clear B1 bw1
 go_upto_region 3 with fail
 go_cut [5] (fun s5 wx => s5 = .bool C ∧ Cel wx w.heap.size [.int .i64 K, .int .i64 N, .slice ao xs.length cap, .slice so S.length sc, .slice tO T.length tc, .int .i64 N8, .int .i64 k8, .int .i64 V8, .int .i64 M8, .slice a8 x8.length e8, .int .i64 L8, .slice q8 y8.length d8, .slice s8 S8.length f8, .slice t8 T8.length g8, .int .i64 N9, .int .i64 M9, .int .i64 k9, .int .i64 V9, .int .i64 L9, .slice a9 x9.length e9, .int .i64 H9, .slice q9 y9.length d9] 37 ∧ Below w.heap.size w wx)
 case first =>
  have c14 := B0.cell 14 rfl
  have c15 := B0.cell 15 rfl
  have c16 := B0.cell 16 rfl
  have c17 := B0.cell 17 rfl
  have c18 := B0.cell 18 rfl
  have c19 := B0.cell 19 rfl
  have c20 := B0.cell 20 rfl
  have c21 := B0.cell 21 rfl
  by_cases q : N9 = 0
  rotate_left
  ·have d : (N9 == 0) = false := by simp [q]
   go_wp2_with fail
   go_meet
   refine ⟨?_, B0, bw⟩
   rw [EC.out]
   simp [q]
  subst q
  by_cases q : M9 = 0
  rotate_left
  ·have d : (M9 == 0) = false := by simp [q]
   go_wp2_with fail
   go_meet
   refine ⟨?_, B0, bw⟩
   rw [EC.out]
   simp [q]
  subst q
  cases hn : nons k9 V9 L9 x9.length with
  | false =>
   rw [hn] at N4
   go_wp2_with fail
   refine (N4.out _).mono ?_
   rintro e w1 ⟨rfl, hb⟩
   replace B0 := B0.kept hb
   replace bw := bw.trans (hb.mono bw.size)
   clear hb c14 c15 c16 c17 c18 c19 c20 c21
   have c14 := B0.cell 14 rfl
   have c15 := B0.cell 15 rfl
   have c16 := B0.cell 16 rfl
   have c17 := B0.cell 17 rfl
   have c18 := B0.cell 18 rfl
   have c19 := B0.cell 19 rfl
   have c20 := B0.cell 20 rfl
   have c21 := B0.cell 21 rfl
   go_wp2_with fail
   go_meet
   refine ⟨?_, B0, bw⟩
   rw [EC.out]
   simp [hn]
  | true =>
   rw [hn] at N4
   go_wp2_with fail
   refine (N4.out _).mono ?_
   rintro e w1 ⟨rfl, hb⟩
   replace B0 := B0.kept hb
   replace bw := bw.trans (hb.mono bw.size)
   clear hb c14 c15 c16 c17 c18 c19 c20 c21
   have c14 := B0.cell 14 rfl
   have c15 := B0.cell 15 rfl
   have c16 := B0.cell 16 rfl
   have c17 := B0.cell 17 rfl
   have c18 := B0.cell 18 rfl
   have c19 := B0.cell 19 rfl
   have c20 := B0.cell 20 rfl
   have c21 := B0.cell 21 rfl
   go_wp2_with fail
   refine (N5.out _).mono ?_
   rintro e w2 ⟨rfl, hb⟩
   replace B0 := B0.kept hb
   replace bw := bw.trans (hb.mono bw.size)
   clear hb c14 c15 c16 c17 c18 c19 c20 c21
   have c14 := B0.cell 14 rfl
   have c15 := B0.cell 15 rfl
   have c16 := B0.cell 16 rfl
   have c17 := B0.cell 17 rfl
   have c18 := B0.cell 18 rfl
   have c19 := B0.cell 19 rfl
   have c20 := B0.cell 20 rfl
   have c21 := B0.cell 21 rfl
   generalize norw [(H9, y9.length)] = R at *
   go_wp2_with fail
   go_meet
   refine ⟨?_, B0, bw⟩
   rw [EC.out]
   simp [hn]
 case rest =>
 obtain ⟨rfl, B1, bw1⟩ := hcut
 clear N4 N5 EC B0 bw
 have c0 := B1.cell 0 rfl
 by_cases q1 : K = 1
 ·subst q1
  cases A <;> cases B <;> cases C <;> (go_wp2; go_ret; rw [hZ2.out]; exact ⟨rfl, bw1⟩)
 by_cases q2 : K = 2
 ·subst q2
  cases A <;> cases B <;> cases C <;> (go_wp2; go_ret; rw [hZ2.out]; exact ⟨rfl, bw1⟩)
 by_cases q3 : K = 3
 ·subst q3
  cases A <;> cases B <;> cases C <;> (go_wp2; go_ret; rw [hZ2.out]; exact ⟨rfl, bw1⟩)
 have d1 : (K == 1) = false := by simp [q1]
 have d2 : (K == 2) = false := by simp [q2]
 have d3 : (K == 3) = false := by simp [q3]
 rw [decide_eq_false q1, decide_eq_false q2, decide_eq_false q3] at hZ2
 cases A <;> cases B <;> cases C <;> (go_wp2; go_ret; rw [hZ2.out]; exact ⟨rfl, bw1⟩)
end Go.Proofs.YtpeecabfcgijhaaGreatDoor
