/-
  The contract of the document's Build of layer 9. The contract of the document's Build.
-/
import Derived.Test.YtcaalcjcpddhaaaGreatS50
set_option linter.unusedVariables false
set_option linter.unusedSimpArgs false
set_option maxRecDepth 100000
namespace Go.Proofs.YtcaalcjcpddhaaaGreat
open Go.RowKit Num Bit
theorem step_store9 {ops : Array Oper} {d : Option Tmp} {ty T : TypeId} {ps : String} {af : Array Edge} {a : Act} {w : World} {K : Act → World → Prop} {Q : Exit → Act → World → Prop} {E : Prop} {x y : Operand}
  (g : Nat) (old cs : List Value) (hx : a.eval x = .pointer (some ⟨g, 0, none⟩)) (hy : a.eval y = .agg cs.toArray) (hc : Cel w g old T) (lo : old.length = cs.length) (hi : (Tryz.prog.info? T).map (·.size) = some cs.length) (h1 : cs.toArray.all (·.oneCell') = true)
  (h : ∀ w1, Cel w1 g cs T → Only g w w1 → K (a.put d undef) w1) :
  if Region.wanted (⟨d, .store T x y, ty, ps, af, none⟩ : Oper) (yielded ops a.tmps) = true then Oper.wp Tryz.prog (⟨d, .store T x y, ty, ps, af, none⟩ : Oper) a w K Q else E := by
 rw [if_pos (by simp [Region.wanted])]
 exact wp_store_row _ x y rfl g cs.toArray hx hy _ _ hc (by simpa using hi) (by simpa using lo) h1 (h _ (setRow_heap w g _ _ _ _ hc) (Only.row g w _))
set_option maxHeartbeats 4000000 in
theorem f9build_bad (N : Int) (ao : Option Addr) (xs : List Nat) (cap : Nat) (w : World) (hx : Wd w ao xs) (hf : Fit xs) (hk : chk N xs = false) :
  Calls Tryz.prog 14 #[.agg #[.int .i64 N, .slice ao xs.length cap]] w fun e w' => e = .returned (.tuple #[.agg #[.int .i64 0, .int .i64 0, .int .i64 0, .int .i64 0, .int .i64 0, .slice none 0 0, .int .i64 0, .slice none 0 0], .int .i64 2]) ∧ Below w.heap.size w w' := by
 have CC : Hid (∀ w0, Below w.heap.size w w0 → Calls Tryz.prog 21 #[.agg #[.int .i64 N, .slice ao xs.length cap]] w0 fun e w' => e = .returned (.bool false) ∧ Below w0.heap.size w0 w') := fun w0 hb => by
  have := refcheck_c N ao xs cap w0 (hx.keep hb) hf
  rw [hk] at this
  exact this
 obtain ⟨W1, hW1⟩ : ∃ W1, W1 = (w.alloc (.cells #[.int .i64 N, .slice ao xs.length cap] 24)).alloc (.cells #[.int .i64 0, .int .i64 0, .int .i64 0, .int .i64 0, .int .i64 0, .slice none 0 0, .int .i64 0, .slice none 0 0] 34) := ⟨_, rfl⟩
 have b1 : Below w.heap.size w W1 := by rw [hW1]; exact (below_alloc w _).alloc (by simp) _
 have c1 : Cel W1 (w.heap.size + 1) [.int .i64 0, .int .i64 0, .int .i64 0, .int .i64 0, .int .i64 0, .slice none 0 0, .int .i64 0, .slice none 0 0] 34 := by rw [hW1]; exact Cel.new2 w _ _ _
 go_enter Tryz.func14, Tryz.ntmps14
 go_wp2_with fail
 rw [← hW1]
 clear hW1 hx
 refine (CC.out _ b1).mono ?_
 rintro e wf ⟨rfl, hb⟩
 replace b1 := b1.trans (hb.mono b1.size)
 replace c1 := c1.kept hb
 clear hb CC
 go_wp2_with (refine store_cel (w.heap.size + 1) [.int .i64 0, .int .i64 0, .int .i64 0, .int .i64 0, .int .i64 0, .slice none 0 0, .int .i64 0, .slice none 0 0] [.int .i64 0, .int .i64 0, .int .i64 0, .int .i64 0, .int .i64 0, .slice none 0 0, .int .i64 0, .slice none 0 0] rfl rfl c1 rfl info_f8 (by simp [Value.oneCell']) ?_)
 intro w3 B3 O3
 have HZ := hide9 (And.intro B3 (b1.trans (O3.below (Nat.le_succ _))))
 clear B3 O3 b1 c1
 go_wp2
 (try simp only [Exit.inBlock, Exit.then])
 exact bodyPost_ret (result_cel rfl (w.heap.size + 1) _ rfl HZ.out.1 Tryz.underlying34 info_f8) rfl ⟨rfl, HZ.out.2⟩
set_option maxHeartbeats 8000000 in
theorem f9build_ok (n : Nat) (ao : Option Addr) (xs : List Nat) (cap : Nat) (l : List Nat) (w : World) (y1 y2 y3 y4 y5 y7 : Int) (y6 y8 : Nat)
  (CC : Hid (∀ w0, Below w.heap.size w w0 → Calls Tryz.prog 21 #[.agg #[.int .i64 (n : Nat), .slice ao xs.length cap]] w0 fun e w' => e = .returned (.bool true) ∧ Below w0.heap.size w0 w'))
  (PC : Hid (∀ w0, Below w.heap.size w w0 → Calls Tryz.prog 39 #[.agg #[.int .i64 (n : Nat), .slice ao xs.length cap]] w0 fun e w' => ∃ so sc, e = .returned (.slice so l.length sc) ∧ Nd w' so (lz l) ∧ Below w0.heap.size w0 w'))
  (YP : World → Option Addr → Nat → Option Addr → Nat → Prop) (yo9 : ∀ w1 w2 yo yc zo zc, YP w1 yo yc zo zc → Only (w.heap.size + 1) w1 w2 → Cel w1 (w.heap.size + 1) [.int .i64 0, .int .i64 0, .int .i64 0, .int .i64 0, .int .i64 0, .slice none 0 0, .int .i64 0, .slice none 0 0] 34 → YP w2 yo yc zo zc)
  (OC : Hid (∀ w0 so sc, Nd w0 so (lz l) → Calls Tryz.prog 38 #[.int .i64 (n : Nat), .slice so l.length sc] w0 fun e w' => ∃ yo yc zo zc, e = .returned (.tuple #[.agg #[.int .i64 y1, .int .i64 y2, .int .i64 y3, .int .i64 y4, .int .i64 y5, .slice yo y6 yc, .int .i64 y7, .slice zo y8 zc], .int .i64 0]) ∧ YP w' yo yc zo zc ∧ Below w0.heap.size w0 w')) :
  Calls Tryz.prog 14 #[.agg #[.int .i64 (n : Nat), .slice ao xs.length cap]] w fun e w' => ∃ yo yc zo zc, e = .returned (.tuple #[.agg #[.int .i64 y1, .int .i64 y2, .int .i64 y3, .int .i64 y4, .int .i64 y5, .slice yo y6 yc, .int .i64 y7, .slice zo y8 zc], .int .i64 0]) ∧ YP w' yo yc zo zc ∧ Below w.heap.size w w' := by
 obtain ⟨W1, hW1⟩ : ∃ W1, W1 = (w.alloc (.cells #[.int .i64 (n : Nat), .slice ao xs.length cap] 24)).alloc (.cells #[.int .i64 0, .int .i64 0, .int .i64 0, .int .i64 0, .int .i64 0, .slice none 0 0, .int .i64 0, .slice none 0 0] 34) := ⟨_, rfl⟩
 have b1 : Below w.heap.size w W1 := by rw [hW1]; exact (below_alloc w _).alloc (by simp) _
 have c0 : Cel W1 w.heap.size [.int .i64 (n : Nat), .slice ao xs.length cap] 24 := by rw [hW1]; exact (Cel.new w _ _).alloc _
 have c1 : Cel W1 (w.heap.size + 1) [.int .i64 0, .int .i64 0, .int .i64 0, .int .i64 0, .int .i64 0, .slice none 0 0, .int .i64 0, .slice none 0 0] 34 := by rw [hW1]; exact Cel.new2 w _ _ _
 go_enter Tryz.func14, Tryz.ntmps14
 go_wp2_with fail
 rw [← hW1]
 clear hW1
 refine (CC.out _ b1).mono ?_
 rintro e wf ⟨rfl, hb⟩
 replace b1 := b1.trans (hb.mono b1.size)
 replace c0 := c0.kept hb
 replace c1 := c1.kept hb
 clear hb CC
 go_wp2_with fail
 refine region_g [7] (fun w0 => Cel w0 w.heap.size [.int .i64 (n : Nat), .slice ao xs.length cap] 24 ∧ Cel w0 (w.heap.size + 1) [.int .i64 0, .int .i64 0, .int .i64 0, .int .i64 0, .int .i64 0, .slice none 0 0, .int .i64 0, .slice none 0 0] 34 ∧ Below w.heap.size w w0) (by kernel_rfl) ?_
 have hS : (fun w0 : World => Cel w0 w.heap.size [.int .i64 (n : Nat), .slice ao xs.length cap] 24 ∧ Cel w0 (w.heap.size + 1) [.int .i64 0, .int .i64 0, .int .i64 0, .int .i64 0, .int .i64 0, .slice none 0 0, .int .i64 0, .slice none 0 0] 34 ∧ Below w.heap.size w w0) wf.drew := ⟨c0.drew, c1.drew, b1.drew⟩
 clear c0 c1 b1
 refine AnyG.take 0 (v := ?vv1) rfl (by kernel_rfl) (by kernel_rfl) (by kernel_rfl) (by kernel_rfl) (fun _ _ _ h => h) hS ?hy1 (by rfl) ?rest1
 case hy1 =>
  intro w0 h0
  go_simp
  try with_reducible rfl
 simp only [Act.put, yq0, yq1, yq2, yq3, yq4, yq5]
 refine AnyG.take 1 (v := ?vv2) rfl (by kernel_rfl) (by kernel_rfl) (by kernel_rfl) (by kernel_rfl) (fun _ _ _ h => h) hS ?hy2 (by rfl) ?rest2
 case hy2 =>
  intro w0 h0
  have := h0.1.cell 0 rfl
  go_simp
  try with_reducible rfl
 simp only [Act.put, yq0, yq1, yq2, yq3, yq4, yq5]
 refine AnyG.take 2 (v := ?vv3) rfl (by kernel_rfl) (by kernel_rfl) (by kernel_rfl) (by kernel_rfl) (fun _ _ _ h => h) hS ?hy3 (by rfl) ?rest3
 case hy3 =>
  intro w0 h0
  have := h0.1.cell 0 rfl
  have := h0.1.cell 1 rfl
  go_simp
  try with_reducible rfl
 simp only [Act.put, yq0, yq1, yq2, yq3, yq4, yq5]
 refine AnyG.one 3 (by kernel_rfl) rfl ?_
 intro K hK
 go_simp
 refine (PC.out _ hS.2.2).mono ?_
 rintro e w2 ⟨so, sc, rfl, hN, hb⟩
 replace hS := And.intro (hS.1.kept hb) (And.intro (hS.2.1.kept hb) (hS.2.2.trans (hb.mono hS.2.2.size)))
 clear hb
 refine hK.out _ _ (fun _ => hS) ?_
 clear hK K
 try simp only [Act.put, yq0, yq1, yq2, yq3, yq4, yq5]
 refine AnyG.one 4 (by kernel_rfl) rfl ?_
 intro K hK
 go_simp
 refine (OC.out _ _ _ hN).mono ?_
 rintro e w3 ⟨yo, yc, zo, zc, rfl, hY, hb⟩
 replace hS := And.intro (hS.1.kept hb) (And.intro (hS.2.1.kept hb) (hS.2.2.trans (hb.mono hS.2.2.size)))
 clear hb hN
 refine hK.out _ _ (fun _ => hS) ?_
 clear hK K
 try simp only [Act.put, yq0, yq1, yq2, yq3, yq4, yq5]
 refine AnyG.take 5 (v := ?vv4) rfl (by kernel_rfl) (by kernel_rfl) (by kernel_rfl) (by kernel_rfl) (fun _ _ _ h => h) hS ?hy4 (by rfl) ?rest4
 case hy4 =>
  intro w0 h0
  go_simp
  try with_reducible rfl
 simp only [Act.put, yq0, yq1, yq2, yq3, yq4, yq5]
 refine AnyG.take 6 (v := ?vv5) rfl (by kernel_rfl) (by kernel_rfl) (by kernel_rfl) (by kernel_rfl) (fun _ _ _ h => h) hS ?hy5 (by rfl) ?rest5
 case hy5 =>
  intro w0 h0
  go_simp
  try with_reducible rfl
 simp only [Act.put, yq0, yq1, yq2, yq3, yq4, yq5]
 refine AnyG.one 7 (by kernel_rfl) rfl ?_
 intro K hK
 refine step_store9 (w.heap.size + 1) [.int .i64 0, .int .i64 0, .int .i64 0, .int .i64 0, .int .i64 0, .slice none 0 0, .int .i64 0, .slice none 0 0] _ rfl rfl hS.2.1 rfl info_f8 (by simp [Value.oneCell']) ?_
 intro w9 B9 O9
 have hY9 := yo9 _ _ _ _ _ _ hY O9 hS.2.1
 have HZ := hide9 (And.intro B9 (And.intro hY9 (hS.2.2.trans (O9.below (Nat.le_succ _)))))
 clear hY9 B9 O9 hS hY
 refine hK.out _ _ (fun h => absurd (by decide) h) ?_
 clear hK K
 try simp only [Act.put, yq0, yq1, yq2, yq3, yq4, yq5]
 refine AnyG.takeW 8 (v := ?vv90) rfl (by kernel_rfl) (by kernel_rfl) (by kernel_rfl) (fun _ _ _ h => h) ?hy90 (by rfl) ?rest90
 case hy90 =>
  intro w0
  go_simp
  try with_reducible rfl
 simp only [Act.put, yq0, yq1, yq2, yq3, yq4, yq5]
 refine AnyG.done (by kernel_rfl) ?_ _
 go_wp2
 (try simp only [Exit.inBlock, Exit.then])
 exact bodyPost_ret (result_cel rfl (w.heap.size + 1) _ rfl HZ.out.1 Tryz.underlying34 info_f8) rfl ⟨yo, yc, zo, zc, rfl, HZ.out.2.1, HZ.out.2.2⟩
theorem f9build_k (N : Int) (ao : Option Addr) (xs : List Nat) (cap : Nat) (w : World) (hx : Wd w ao xs) (hf : Fit xs) (hN : N ≤ 3000) :
  Calls Tryz.prog 14 #[.agg #[.int .i64 N, .slice ao xs.length cap]] w fun e w' => ∃ cs : List Value, e = .returned (.tuple #[.agg cs.toArray, .int .i64 (kE9 N xs)]) ∧ KI9 w' cs (kB9 N xs) ∧ Below w.heap.size w w' := by
 have z : I64 0 := ⟨by decide, by decide⟩
 cases hk : chk N xs with
 | false =>
  refine (f9build_bad N ao xs cap w hx hf hk).mono ?_
  rintro e w' ⟨rfl, hb⟩
  have e1 : kE9 N xs = 2 := by unfold kE9; rw [hk]; rfl
  have e2 : kB9 N xs = ⟨0, 0, 0, 0, 0, [], 0, []⟩ := by unfold kB9; rw [hk]; rfl
  rw [e1, e2]
  have f0 : Fit [] := fun i => by unfold gt; simp
  exact ⟨_, rfl, ⟨⟨none, 0, none, 0, rfl, ⟨z, z, z, z, z, z⟩, wd0' _ _, f0, Nat.le_refl _, wd0' _ _, f0, Nat.le_refl _⟩, by decide, by simp, by simp⟩, hb⟩
 | true =>
  obtain ⟨u1, u2, u3, u4⟩ := chk_out _ _ hk
  obtain ⟨n, rfl⟩ := Int.eq_ofNat_of_zero_le u1
  have hn : n ≤ 3000 := by omega
  obtain ⟨L, hL⟩ : ∃ L, L = plc (bitAt xs) n := ⟨_, rfl⟩
  have RS : Rise L n := by rw [hL]; exact plc_rise _ _
  have mn := RS.len
  have e1 : kE9 (n : Int) xs = 0 := by unfold kE9; rw [hk]; rfl
  have e2 : kB9 (n : Int) xs = fOf n L := by
   unfold kB9
   rw [if_pos hk, Int.toNat_natCast, ← hL]
  have CC : Hid (∀ w0, Below w.heap.size w w0 → Calls Tryz.prog 21 #[.agg #[.int .i64 (n : Nat), .slice ao xs.length cap]] w0 fun e w' => e = .returned (.bool true) ∧ Below w0.heap.size w0 w') := fun w0 hb => by
   have := refcheck_c n ao xs cap w0 (hx.keep hb) hf
   rw [hk] at this
   exact this
  have PC : Hid (∀ w0, Below w.heap.size w w0 → Calls Tryz.prog 39 #[.agg #[.int .i64 (n : Nat), .slice ao xs.length cap]] w0 fun e w' => ∃ so sc, e = .returned (.slice so L.length sc) ∧ Nd w' so (lz L) ∧ Below w0.heap.size w0 w') := fun w0 hb => by
   refine (places_c n ao xs cap w0 (hx.keep hb) hk).mono ?_
   rintro e w' ⟨v, rfl, ho, hb2⟩
   rw [← hL] at ho
   obtain ⟨so, sc, rfl, _, _⟩ := Ap.owns_shape ho
   exact ⟨so, sc, rfl, nd_own9 ho, hb2.mono (Nat.le_refl _)⟩
  have i_y : ∀ {w1 : World} {yo : Option Addr} {X : List Nat}, Wd w1 yo X → Cel w1 (w.heap.size + 1) [.int .i64 0, .int .i64 0, .int .i64 0, .int .i64 0, .int .i64 0, .slice none 0 0, .int .i64 0, .slice none 0 0] 34 → ∀ a, 0 < X.length → yo = some a → a.block ≠ w.heap.size + 1 := fun h hc => h.apart hc (by intro v hv n; simp at hv; rcases hv with rfl | rfl | rfl | rfl <;> simp)
  refine (f9build_ok n ao xs cap L w (fOf n L).N (fOf n L).M (fOf n L).k (fOf n L).V (fOf n L).LM (fOf n L).H (fOf n L).xs.length (fOf n L).ys.length CC PC (fun w0 yo yc zo zc => Wd w0 yo (fOf n L).xs ∧ (fOf n L).xs.length ≤ yc ∧ Wd w0 zo (fOf n L).ys ∧ (fOf n L).ys.length ≤ zc) (fun w1 w2 yo yc zo zc h hO hc => ⟨hO.wd h.1 (i_y h.1 hc), h.2.1, hO.wd h.2.2.1 (i_y h.2.2.1 hc), h.2.2.2⟩) ?_).mono ?_
  ·intro w0 so sc hNd
   exact of9_c n so L sc w0 hNd RS hn
  ·rintro e w' ⟨bo, bc, qo, qc, rfl, ⟨p1, p2, p3, p4⟩, hb⟩
   rw [e1, e2]
   obtain ⟨v, hv⟩ : ∃ v, v = wdF n L.length := ⟨_, rfl⟩
   have v20 : v ≤ 20 := by rw [hv]; exact wdF_le n _ (by omega)
   have e3 : fOf n L = ⟨n, L.length, (loP L v).length, (max v 1 : Nat), ((loP L v).length : Int) * (max v 1 : Nat), mkS (loP L v) (max v 1) (loP L v).length, hiN L n v, rowOf (hiN L n v) (isIn (hiP L v))⟩ := by
    unfold fOf
    rw [← hv]
   rw [e3] at p1 p2 p3 p4 ⊢
   dsimp only at p1 p2 p3 p4 ⊢
   have l1 := length_lo_le L v
   have hE : n / 2 ^ v ≤ n := Nat.div_le_self _ _
   have l2 : hiN L n v ≤ 6001 := by unfold hiN; omega
   have l3 : (loP L v).length * max v 1 ≤ 3000 * 20 := Nat.mul_le_mul (by omega) (by omega)
   have l4 : (mkS (loP L v) (max v 1) (loP L v).length).length ≤ 1048576 := by rw [length_mkS]; omega
   have l5 : (rowOf (hiN L n v) (isIn (hiP L v))).length ≤ 1048576 := by rw [length_rowOf]; omega
   have i1 : I64 (n : Int) := ⟨by omega, by omega⟩
   have i2 : I64 (L.length : Int) := ⟨by omega, by omega⟩
   have i3 : I64 ((loP L v).length : Int) := ⟨by omega, by omega⟩
   have i5 : I64 ((max v 1 : Nat) : Int) := ⟨by omega, by omega⟩
   have i6 : I64 (hiN L n v : Int) := ⟨by omega, by omega⟩
   have i4 : I64 (((loP L v).length : Int) * (max v 1 : Nat)) := by
    rw [← Int.natCast_mul]
    exact ⟨by omega, by omega⟩
   exact ⟨_, rfl, ⟨⟨bo, bc, qo, qc, rfl, ⟨i1, i2, i3, i5, i4, i6⟩, p1, fit_mkS _ _ _, p2, p3, fit_rowOf _ _, p4⟩, hN, l4, l5⟩, hb⟩
end Go.Proofs.YtcaalcjcpddhaaaGreat
namespace Go.Proofs.YtcaalcjcpddhaaaGreat
open Go.RowKit Num Bit
set_option maxHeartbeats 8000000 in
theorem vbuild_k (k N : Int) (ao : Option Addr) (xs : List Nat) (cap : Nat) (w : World) (hK : I64 k) (hN : I64 N) (hx : Wd w ao xs) (hf : Fit xs) (hcap : xs.length ≤ cap) (hl : N ≤ 3000 ∧ xs.length ≤ 1048576) (GG : GV w) :
  Calls Tryz.prog 5 #[.int .i64 k, .agg #[.int .i64 N, .slice ao xs.length cap]] w fun e w' => ∃ cs : List Value, e = .returned (.tuple #[.agg cs.toArray, .int .i64 (kE k N xs)]) ∧ KI w' cs (kB k N xs) ∧ Below w.heap.size w w' ∧ NFV w.heap.size cs := by
 obtain ⟨W, hW⟩ : ∃ W, W = ((w.alloc (.cells #[.int .i64 N, .slice ao xs.length cap] 24)).alloc (.cells [Value.int .i64 0, .int .i64 0, .slice none 0 0, .slice none 0 0, .slice none 0 0, .int .i64 0, .int .i64 0, .int .i64 0, .int .i64 0, .slice none 0 0, .int .i64 0, .slice none 0 0, .slice none 0 0, .slice none 0 0, .int .i64 0, .int .i64 0, .int .i64 0, .int .i64 0, .int .i64 0, .slice none 0 0, .int .i64 0, .slice none 0 0].toArray 36)).alloc (.cells [Value.int .i64 0, .int .i64 0, .slice none 0 0, .slice none 0 0, .slice none 0 0, .int .i64 0, .int .i64 0, .int .i64 0, .int .i64 0, .slice none 0 0, .int .i64 0, .slice none 0 0, .slice none 0 0, .slice none 0 0, .int .i64 0, .int .i64 0, .int .i64 0, .int .i64 0, .int .i64 0, .slice none 0 0, .int .i64 0, .slice none 0 0].toArray 36) := ⟨_, rfl⟩
 have bw : Below w.heap.size w W := by rw [hW]; exact ((below_alloc w _).alloc (by simp) _).alloc (by simp; omega) _
 have B0 : Cel W w.heap.size [.int .i64 N, .slice ao xs.length cap] 24 := by rw [hW]; exact ((Cel.new w _ _).alloc _).alloc _
 have B4 : Cel W (w.heap.size + 1) [Value.int .i64 0, .int .i64 0, .slice none 0 0, .slice none 0 0, .slice none 0 0, .int .i64 0, .int .i64 0, .int .i64 0, .int .i64 0, .slice none 0 0, .int .i64 0, .slice none 0 0, .slice none 0 0, .slice none 0 0, .int .i64 0, .int .i64 0, .int .i64 0, .int .i64 0, .int .i64 0, .slice none 0 0, .int .i64 0, .slice none 0 0] 36 := by rw [hW]; exact (Cel.new2 w _ _ _).alloc _
 have B6 : Cel W (w.heap.size + 2) [Value.int .i64 0, .int .i64 0, .slice none 0 0, .slice none 0 0, .slice none 0 0, .int .i64 0, .int .i64 0, .int .i64 0, .int .i64 0, .slice none 0 0, .int .i64 0, .slice none 0 0, .slice none 0 0, .slice none 0 0, .int .i64 0, .int .i64 0, .int .i64 0, .int .i64 0, .int .i64 0, .slice none 0 0, .int .i64 0, .slice none 0 0] 36 := by rw [hW]; exact (Cel.new2 (w.alloc _) _ _ _).at (by simp)
 have hIV := Hid.mk8 info_v
 have H7 : Hid (∀ w0, Below w.heap.size w w0 → Calls Tryz.prog 12 #[.agg #[.int .i64 N, .slice ao xs.length cap]] w0 fun e w' => ∃ cs : List Value, e = .returned (.tuple #[.agg cs.toArray, .int .i64 (kE7 N xs)]) ∧ KI7 w' cs (kB7 N xs) ∧ NF w0.heap.size 2 cs ∧ Below w0.heap.size w0 w') := fun w0 h => p7build_k N ao xs cap w0 hN (hx.keep h) hf hcap hl.2
 have H8 : Hid (∀ w0, Below w.heap.size w w0 → Calls Tryz.prog 13 #[.agg #[.int .i64 N, .slice ao xs.length cap]] w0 fun e w' => ∃ cs : List Value, e = .returned (.tuple #[.agg cs.toArray, .int .i64 (kE8 N xs)]) ∧ KI8 w' cs (kB8 N xs) ∧ NF w0.heap.size 7 cs ∧ Below w0.heap.size w0 w') := fun w0 h => r8build_k N ao xs cap w0 (hx.keep h) hf (GG.kept h)
 have H9 : Hid (∀ w0, Below w.heap.size w w0 → Calls Tryz.prog 14 #[.agg #[.int .i64 N, .slice ao xs.length cap]] w0 fun e w' => ∃ cs : List Value, e = .returned (.tuple #[.agg cs.toArray, .int .i64 (kE9 N xs)]) ∧ KI9 w' cs (kB9 N xs) ∧ Below w0.heap.size w0 w') := fun w0 h => f9build_k N ao xs cap w0 (hx.keep h) hf hl.1
 subst hW
 by_cases q1 : k = 1
 ·subst q1
  have eE : kE 1 N xs = kE7 N xs := rfl
  rw [eE]
  by_cases z : kE7 N xs = 0
  ·have ew : kB 1 N xs = ⟨1, kB7 N xs, n8, n9⟩ := kB_p N xs z
   rw [z] at H7 ⊢
   clear eE z
   go_enter Tryz.func5, Tryz.ntmps5
   go_wp2_with (refine store_cel (w.heap.size + 2) _ _ rfl rfl B6 rfl hIV.out (by simp [Value.oneCell']) ?_)
   intro w1 B6 O1
   replace B0 := O1.cel B0 (by omega)
   replace B4 := O1.cel B4 (by omega)
   replace bw := bw.trans (O1.below (by omega))
   clear O1
   have r0 := B0.cell 0 rfl
   have r1 := B0.cell 1 rfl
   go_wp2_with fail
   refine (H7.out _ bw).mono ?_
   rintro e w2 ⟨cs, rfl, hP, hN2, hb⟩
   have sz := B6.lt
   have sz2 := hb.size
   replace B4 := B4.kept hb
   replace B6 := B6.kept hb
   replace bw := bw.trans (hb.mono bw.size)
   clear hb r0 r1 B0
   go_wp2_with (refine store_part (w.heap.size + 2) [Value.int .i64 1] [Value.int .i64 0, .slice none 0 0, .slice none 0 0, .slice none 0 0] ([Value.int .i64 0, .int .i64 0, .int .i64 0, .int .i64 0, .slice none 0 0, .int .i64 0, .slice none 0 0, .slice none 0 0, .slice none 0 0] ++ [Value.int .i64 0, .int .i64 0, .int .i64 0, .int .i64 0, .int .i64 0, .slice none 0 0, .int .i64 0, .slice none 0 0]) cs rfl rfl B6 hP.arg.four.symm hP.arg.len hP.arg.one ?_)
   intro w3 B7 O3
   have hQ := hP.only hN2 (by omega) B6 (nou_mk (z7arg w).arg.nou (z8a w).nou (z9arg w).arg.nou) O3
   replace B4 := O3.cel B4 (by omega)
   replace bw := bw.trans (O3.below (by omega))
   have B8 : Cel w3 (w.heap.size + 2) (Value.int .i64 1 :: (cs ++ ([Value.int .i64 0, .int .i64 0, .int .i64 0, .int .i64 0, .slice none 0 0, .int .i64 0, .slice none 0 0, .slice none 0 0, .slice none 0 0] ++ [Value.int .i64 0, .int .i64 0, .int .i64 0, .int .i64 0, .int .i64 0, .slice none 0 0, .int .i64 0, .slice none 0 0]))) 36 := B7
   have HL := Hid.mk8 (ka_mk hK hQ.arg (z8a w3) (z9arg w3).arg).len
   have H1 := Hid.mk8 (ka_mk hK hQ.arg (z8a w3) (z9arg w3).arg).one
   have H9 := Hid.mk8 (ka_mk hK hQ.arg (z8a w3) (z9arg w3).arg).nine
   have HNF : Hid (NFV w.heap.size (Value.int .i64 1 :: (cs ++ ([Value.int .i64 0, .int .i64 0, .int .i64 0, .int .i64 0, .slice none 0 0, .int .i64 0, .slice none 0 0, .slice none 0 0, .slice none 0 0] ++ [Value.int .i64 0, .int .i64 0, .int .i64 0, .int .i64 0, .int .i64 0, .slice none 0 0, .int .i64 0, .slice none 0 0])))) := ⟨(hN2.mono (by omega)).mid (pre := [Value.int .i64 1]) (by have := hQ.arg.four; omega) rfl, (show NF w.heap.size 7 [Value.int .i64 0, .int .i64 0, .int .i64 0, .int .i64 0, .slice none 0 0, .int .i64 0, .slice none 0 0, .slice none 0 0, .slice none 0 0] from nf_mk (fr0 _) (fr0 _)).mid (pre := Value.int .i64 1 :: cs) (by decide) (by have := hQ.arg.four; simp; omega)⟩
   have HQ := Hid.mk8 (And.intro hQ hN2)
   clear B7 O3 B6 hP hN2 hQ
   go_wp2_with (first | refine load_obj (w.heap.size + 2) _ (by rfl) rfl B8 Tryz.underlying36 HL.out ?_ | refine store_cel (w.heap.size + 1) _ _ rfl rfl B4 H9.out HL.out H1.out ?_)
   intro w9 B9 O9
   have HZ := Hid.mk8 (And.intro B9 (And.intro (ki_mk hK (HQ.out.1.only HQ.out.2 (by omega) B4 (nou_mk (z7arg w).arg.nou (z8a w).nou (z9arg w).arg.nou) O9) (z8arg w9 (GG.kept (bw.trans (O9.below (by omega))))) (z9arg w9)) (bw.trans (O9.below (by omega)))))
   clear B9 O9 B8 B4 HQ
   go_wp2
   (try simp only [Exit.inBlock, Exit.then])
   refine bodyPost_ret (result_cel rfl (w.heap.size + 1) _ rfl HZ.out.1 Tryz.underlying36 HL.out) rfl ⟨_, rfl, ?_, HZ.out.2.2, HNF.out⟩
   rw [ew]
   exact HZ.out.2.1
  ·have ew : kB 1 N xs = ⟨0, n7, n8, n9⟩ := kB_none 1 N xs (by rw [eE]; exact z)
   have zz : (kE7 N xs != 0) = true := by simp [z]
   clear eE z
   generalize kE7 N xs = E1 at *
   go_enter Tryz.func5, Tryz.ntmps5
   go_wp2_with (refine store_cel (w.heap.size + 2) _ _ rfl rfl B6 rfl hIV.out (by simp [Value.oneCell']) ?_)
   intro w1 B6 O1
   replace B0 := O1.cel B0 (by omega)
   replace B4 := O1.cel B4 (by omega)
   replace bw := bw.trans (O1.below (by omega))
   clear O1
   have r0 := B0.cell 0 rfl
   have r1 := B0.cell 1 rfl
   go_wp2_with fail
   refine (H7.out _ bw).mono ?_
   rintro e w2 ⟨cs, rfl, hP, hN2, hb⟩
   have sz := B6.lt
   have sz2 := hb.size
   replace B4 := B4.kept hb
   replace B6 := B6.kept hb
   replace bw := bw.trans (hb.mono bw.size)
   clear hb r0 r1 B0
   go_wp2_with (refine store_part (w.heap.size + 2) [Value.int .i64 1] [Value.int .i64 0, .slice none 0 0, .slice none 0 0, .slice none 0 0] ([Value.int .i64 0, .int .i64 0, .int .i64 0, .int .i64 0, .slice none 0 0, .int .i64 0, .slice none 0 0, .slice none 0 0, .slice none 0 0] ++ [Value.int .i64 0, .int .i64 0, .int .i64 0, .int .i64 0, .int .i64 0, .slice none 0 0, .int .i64 0, .slice none 0 0]) cs rfl rfl B6 hP.arg.four.symm hP.arg.len hP.arg.one ?_)
   intro w3 B7 O3
   replace B4 := O3.cel B4 (by omega)
   replace bw := bw.trans (O3.below (by omega))
   clear B7 O3 B6 hP hN2
   go_wp2_with (refine store_cel (w.heap.size + 1) _ _ rfl rfl B4 rfl hIV.out (by simp [Value.oneCell']) ?_)
   intro w9 B9 O9
   have HZ := Hid.mk8 (And.intro B9 (bw.trans (O9.below (by omega))))
   clear B9 O9
   go_wp2
   (try simp only [Exit.inBlock, Exit.then])
   refine bodyPost_ret (result_cel rfl (w.heap.size + 1) _ rfl HZ.out.1 Tryz.underlying36 hIV.out) rfl ⟨_, rfl, ?_, HZ.out.2, nf_mk (fr0 _) (fr0 _), nf_mk (fr0 _) (fr0 _)⟩
   rw [ew]
   exact ki_mk i64_0 (z7arg _) (z8arg _ (GG.kept HZ.out.2)) (z9arg _)
 by_cases q2 : k = 2
 ·subst q2
  have eE : kE 2 N xs = kE8 N xs := rfl
  rw [eE]
  by_cases z : kE8 N xs = 0
  ·have ew : kB 2 N xs = ⟨2, n7, kB8 N xs, n9⟩ := kB_r N xs z
   rw [z] at H8 ⊢
   clear eE z
   go_enter Tryz.func5, Tryz.ntmps5
   go_wp2_with (refine store_cel (w.heap.size + 2) _ _ rfl rfl B6 rfl hIV.out (by simp [Value.oneCell']) ?_)
   intro w1 B6 O1
   replace B0 := O1.cel B0 (by omega)
   replace B4 := O1.cel B4 (by omega)
   replace bw := bw.trans (O1.below (by omega))
   clear O1
   have r0 := B0.cell 0 rfl
   have r1 := B0.cell 1 rfl
   go_wp2_with fail
   refine (H8.out _ bw).mono ?_
   rintro e w2 ⟨cs, rfl, hP, hN2, hb⟩
   have sz := B6.lt
   have sz2 := hb.size
   replace B4 := B4.kept hb
   replace B6 := B6.kept hb
   replace bw := bw.trans (hb.mono bw.size)
   clear hb r0 r1 B0
   go_wp2_with (refine store_part (w.heap.size + 2) (Value.int .i64 2 :: [Value.int .i64 0, .slice none 0 0, .slice none 0 0, .slice none 0 0]) [Value.int .i64 0, .int .i64 0, .int .i64 0, .int .i64 0, .slice none 0 0, .int .i64 0, .slice none 0 0, .slice none 0 0, .slice none 0 0] [Value.int .i64 0, .int .i64 0, .int .i64 0, .int .i64 0, .int .i64 0, .slice none 0 0, .int .i64 0, .slice none 0 0] cs rfl rfl B6 hP.arg.nine hP.arg.len hP.arg.one ?_)
   intro w3 B7 O3
   have hQ := hP.only hN2 (by omega) B6 (nou_mk (z7arg w).arg.nou (z8a w).nou (z9arg w).arg.nou) O3 (GG.kept (bw.trans (O3.below (by omega))))
   replace B4 := O3.cel B4 (by omega)
   replace bw := bw.trans (O3.below (by omega))
   have B8 : Cel w3 (w.heap.size + 2) (Value.int .i64 2 :: ([Value.int .i64 0, .slice none 0 0, .slice none 0 0, .slice none 0 0] ++ (cs ++ [Value.int .i64 0, .int .i64 0, .int .i64 0, .int .i64 0, .int .i64 0, .slice none 0 0, .int .i64 0, .slice none 0 0]))) 36 := B7
   have HL := Hid.mk8 (ki_mk hK (z7arg w3) hQ (z9arg w3)).arg.len
   have H1 := Hid.mk8 (ki_mk hK (z7arg w3) hQ (z9arg w3)).arg.one
   have H9 := Hid.mk8 (ki_mk hK (z7arg w3) hQ (z9arg w3)).arg.nine
   have HNF : Hid (NFV w.heap.size (Value.int .i64 2 :: ([Value.int .i64 0, .slice none 0 0, .slice none 0 0, .slice none 0 0] ++ (cs ++ [Value.int .i64 0, .int .i64 0, .int .i64 0, .int .i64 0, .int .i64 0, .slice none 0 0, .int .i64 0, .slice none 0 0])))) := ⟨nf_mk (fr0 _) (fr0 _), (hN2.mono (by omega)).mid (pre := Value.int .i64 2 :: [Value.int .i64 0, .slice none 0 0, .slice none 0 0, .slice none 0 0]) (by have := hQ.arg.nine; omega) rfl⟩
   have HQ := Hid.mk8 (And.intro hQ hN2)
   clear B7 O3 B6 hP hN2 hQ
   go_wp2_with (first | refine load_obj (w.heap.size + 2) _ (by rfl) rfl B8 Tryz.underlying36 HL.out ?_ | refine store_cel (w.heap.size + 1) _ _ rfl rfl B4 H9.out HL.out H1.out ?_)
   intro w9 B9 O9
   have HZ := Hid.mk8 (And.intro B9 (And.intro (ki_mk hK (z7arg w9) (HQ.out.1.only HQ.out.2 (by omega) B4 (nou_mk (z7arg w).arg.nou (z8a w).nou (z9arg w).arg.nou) O9 (GG.kept (bw.trans (O9.below (by omega))))) (z9arg w9)) (bw.trans (O9.below (by omega)))))
   clear B9 O9 B8 B4 HQ
   go_wp2
   (try simp only [Exit.inBlock, Exit.then])
   refine bodyPost_ret (result_cel rfl (w.heap.size + 1) _ rfl HZ.out.1 Tryz.underlying36 HL.out) rfl ⟨_, rfl, ?_, HZ.out.2.2, HNF.out⟩
   rw [ew]
   exact HZ.out.2.1
  ·have ew : kB 2 N xs = ⟨0, n7, n8, n9⟩ := kB_none 2 N xs (by rw [eE]; exact z)
   have zz : (kE8 N xs != 0) = true := by simp [z]
   clear eE z
   generalize kE8 N xs = E1 at *
   go_enter Tryz.func5, Tryz.ntmps5
   go_wp2_with (refine store_cel (w.heap.size + 2) _ _ rfl rfl B6 rfl hIV.out (by simp [Value.oneCell']) ?_)
   intro w1 B6 O1
   replace B0 := O1.cel B0 (by omega)
   replace B4 := O1.cel B4 (by omega)
   replace bw := bw.trans (O1.below (by omega))
   clear O1
   have r0 := B0.cell 0 rfl
   have r1 := B0.cell 1 rfl
   go_wp2_with fail
   refine (H8.out _ bw).mono ?_
   rintro e w2 ⟨cs, rfl, hP, hN2, hb⟩
   have sz := B6.lt
   have sz2 := hb.size
   replace B4 := B4.kept hb
   replace B6 := B6.kept hb
   replace bw := bw.trans (hb.mono bw.size)
   clear hb r0 r1 B0
   go_wp2_with (refine store_part (w.heap.size + 2) (Value.int .i64 2 :: [Value.int .i64 0, .slice none 0 0, .slice none 0 0, .slice none 0 0]) [Value.int .i64 0, .int .i64 0, .int .i64 0, .int .i64 0, .slice none 0 0, .int .i64 0, .slice none 0 0, .slice none 0 0, .slice none 0 0] [Value.int .i64 0, .int .i64 0, .int .i64 0, .int .i64 0, .int .i64 0, .slice none 0 0, .int .i64 0, .slice none 0 0] cs rfl rfl B6 hP.arg.nine hP.arg.len hP.arg.one ?_)
   intro w3 B7 O3
   replace B4 := O3.cel B4 (by omega)
   replace bw := bw.trans (O3.below (by omega))
   clear B7 O3 B6 hP hN2
   go_wp2_with (refine store_cel (w.heap.size + 1) _ _ rfl rfl B4 rfl hIV.out (by simp [Value.oneCell']) ?_)
   intro w9 B9 O9
   have HZ := Hid.mk8 (And.intro B9 (bw.trans (O9.below (by omega))))
   clear B9 O9
   go_wp2
   (try simp only [Exit.inBlock, Exit.then])
   refine bodyPost_ret (result_cel rfl (w.heap.size + 1) _ rfl HZ.out.1 Tryz.underlying36 hIV.out) rfl ⟨_, rfl, ?_, HZ.out.2, nf_mk (fr0 _) (fr0 _), nf_mk (fr0 _) (fr0 _)⟩
   rw [ew]
   exact ki_mk i64_0 (z7arg _) (z8arg _ (GG.kept HZ.out.2)) (z9arg _)
 by_cases q3 : k = 3
 ·subst q3
  have eE : kE 3 N xs = kE9 N xs := rfl
  rw [eE]
  by_cases z : kE9 N xs = 0
  ·have ew : kB 3 N xs = ⟨3, n7, n8, kB9 N xs⟩ := kB_f N xs z
   rw [z] at H9 ⊢
   clear eE z
   go_enter Tryz.func5, Tryz.ntmps5
   go_wp2_with (refine store_cel (w.heap.size + 2) _ _ rfl rfl B6 rfl hIV.out (by simp [Value.oneCell']) ?_)
   intro w1 B6 O1
   replace B0 := O1.cel B0 (by omega)
   replace B4 := O1.cel B4 (by omega)
   replace bw := bw.trans (O1.below (by omega))
   clear O1
   have r0 := B0.cell 0 rfl
   have r1 := B0.cell 1 rfl
   go_wp2_with fail
   refine (H9.out _ bw).mono ?_
   rintro e w2 ⟨cs, rfl, hP, hb⟩
   have sz := B6.lt
   have sz2 := hb.size
   replace B4 := B4.kept hb
   replace B6 := B6.kept hb
   replace bw := bw.trans (hb.mono bw.size)
   clear hb r0 r1 B0
   go_wp2_with (refine store_part (w.heap.size + 2) (Value.int .i64 3 :: ([Value.int .i64 0, .slice none 0 0, .slice none 0 0, .slice none 0 0] ++ [Value.int .i64 0, .int .i64 0, .int .i64 0, .int .i64 0, .slice none 0 0, .int .i64 0, .slice none 0 0, .slice none 0 0, .slice none 0 0])) [Value.int .i64 0, .int .i64 0, .int .i64 0, .int .i64 0, .int .i64 0, .slice none 0 0, .int .i64 0, .slice none 0 0] [] cs rfl rfl B6 hP.arg.nine hP.arg.len hP.arg.one ?_)
   intro w3 B7 O3
   have hQ := hP.only B6 (nou_mk (z7arg w).arg.nou (z8a w).nou (z9arg w).arg.nou) O3
   replace B4 := O3.cel B4 (by omega)
   replace bw := bw.trans (O3.below (by omega))
   have B8 : Cel w3 (w.heap.size + 2) (Value.int .i64 3 :: ([Value.int .i64 0, .slice none 0 0, .slice none 0 0, .slice none 0 0] ++ ([Value.int .i64 0, .int .i64 0, .int .i64 0, .int .i64 0, .slice none 0 0, .int .i64 0, .slice none 0 0, .slice none 0 0, .slice none 0 0] ++ cs))) 36 := by simpa using B7
   have HL := Hid.mk8 (ka_mk hK (z7arg w3).arg (z8a w3) hQ.arg).len
   have H1 := Hid.mk8 (ka_mk hK (z7arg w3).arg (z8a w3) hQ.arg).one
   have H9 := Hid.mk8 (ka_mk hK (z7arg w3).arg (z8a w3) hQ.arg).nine
   have HNF : Hid (NFV w.heap.size (Value.int .i64 3 :: ([Value.int .i64 0, .slice none 0 0, .slice none 0 0, .slice none 0 0] ++ ([Value.int .i64 0, .int .i64 0, .int .i64 0, .int .i64 0, .slice none 0 0, .int .i64 0, .slice none 0 0, .slice none 0 0, .slice none 0 0] ++ cs)))) := ⟨nf_mk (fr0 _) (fr0 _), nf_mk (fr0 _) (fr0 _)⟩
   have HQ := Hid.mk8 (And.intro hQ trivial)
   clear B7 O3 B6 hP hQ
   go_wp2_with (first | refine load_obj (w.heap.size + 2) _ (by rfl) rfl B8 Tryz.underlying36 HL.out ?_ | refine store_cel (w.heap.size + 1) _ _ rfl rfl B4 H9.out HL.out H1.out ?_)
   intro w9 B9 O9
   have HZ := Hid.mk8 (And.intro B9 (And.intro (ki_mk hK (z7arg w9) (z8arg w9 (GG.kept (bw.trans (O9.below (by omega))))) (HQ.out.1.only B4 (nou_mk (z7arg w).arg.nou (z8a w).nou (z9arg w).arg.nou) O9)) (bw.trans (O9.below (by omega)))))
   clear B9 O9 B8 B4 HQ
   go_wp2
   (try simp only [Exit.inBlock, Exit.then])
   refine bodyPost_ret (result_cel rfl (w.heap.size + 1) _ rfl HZ.out.1 Tryz.underlying36 HL.out) rfl ⟨_, rfl, ?_, HZ.out.2.2, HNF.out⟩
   rw [ew]
   exact HZ.out.2.1
  ·have ew : kB 3 N xs = ⟨0, n7, n8, n9⟩ := kB_none 3 N xs (by rw [eE]; exact z)
   have zz : (kE9 N xs != 0) = true := by simp [z]
   clear eE z
   generalize kE9 N xs = E1 at *
   go_enter Tryz.func5, Tryz.ntmps5
   go_wp2_with (refine store_cel (w.heap.size + 2) _ _ rfl rfl B6 rfl hIV.out (by simp [Value.oneCell']) ?_)
   intro w1 B6 O1
   replace B0 := O1.cel B0 (by omega)
   replace B4 := O1.cel B4 (by omega)
   replace bw := bw.trans (O1.below (by omega))
   clear O1
   have r0 := B0.cell 0 rfl
   have r1 := B0.cell 1 rfl
   go_wp2_with fail
   refine (H9.out _ bw).mono ?_
   rintro e w2 ⟨cs, rfl, hP, hb⟩
   have sz := B6.lt
   have sz2 := hb.size
   replace B4 := B4.kept hb
   replace B6 := B6.kept hb
   replace bw := bw.trans (hb.mono bw.size)
   clear hb r0 r1 B0
   go_wp2_with (refine store_part (w.heap.size + 2) (Value.int .i64 3 :: ([Value.int .i64 0, .slice none 0 0, .slice none 0 0, .slice none 0 0] ++ [Value.int .i64 0, .int .i64 0, .int .i64 0, .int .i64 0, .slice none 0 0, .int .i64 0, .slice none 0 0, .slice none 0 0, .slice none 0 0])) [Value.int .i64 0, .int .i64 0, .int .i64 0, .int .i64 0, .int .i64 0, .slice none 0 0, .int .i64 0, .slice none 0 0] [] cs rfl rfl B6 hP.arg.nine hP.arg.len hP.arg.one ?_)
   intro w3 B7 O3
   replace B4 := O3.cel B4 (by omega)
   replace bw := bw.trans (O3.below (by omega))
   clear B7 O3 B6 hP
   go_wp2_with (refine store_cel (w.heap.size + 1) _ _ rfl rfl B4 rfl hIV.out (by simp [Value.oneCell']) ?_)
   intro w9 B9 O9
   have HZ := Hid.mk8 (And.intro B9 (bw.trans (O9.below (by omega))))
   clear B9 O9
   go_wp2
   (try simp only [Exit.inBlock, Exit.then])
   refine bodyPost_ret (result_cel rfl (w.heap.size + 1) _ rfl HZ.out.1 Tryz.underlying36 hIV.out) rfl ⟨_, rfl, ?_, HZ.out.2, nf_mk (fr0 _) (fr0 _), nf_mk (fr0 _) (fr0 _)⟩
   rw [ew]
   exact ki_mk i64_0 (z7arg _) (z8arg _ (GG.kept HZ.out.2)) (z9arg _)
 have eE : kE k N xs = 5 := by unfold kE; rw [if_neg q1, if_neg q2, if_neg q3]
 have ew : kB k N xs = ⟨0, n7, n8, n9⟩ := kB_none k N xs (by rw [eE]; decide)
 rw [eE]
 have d1 : (k == 1) = false := by simp [q1]
 have d2 : (k == 2) = false := by simp [q2]
 have d3 : (k == 3) = false := by simp [q3]
 clear eE
 go_enter Tryz.func5, Tryz.ntmps5
 go_wp2_with (refine store_cel (w.heap.size + 2) _ _ rfl rfl B6 rfl hIV.out (by simp [Value.oneCell']) ?_)
 intro w1 B6 O1
 replace B0 := O1.cel B0 (by omega)
 replace B4 := O1.cel B4 (by omega)
 replace bw := bw.trans (O1.below (by omega))
 clear O1
 have r0 := B0.cell 0 rfl
 have r1 := B0.cell 1 rfl
 go_wp2_with (refine store_cel (w.heap.size + 1) _ _ rfl rfl B4 rfl hIV.out (by simp [Value.oneCell']) ?_)
 intro w9 B9 O9
 have HZ := Hid.mk8 (And.intro B9 (bw.trans (O9.below (by omega))))
 clear B9 O9
 go_wp2
 (try simp only [Exit.inBlock, Exit.then])
 refine bodyPost_ret (result_cel rfl (w.heap.size + 1) _ rfl HZ.out.1 Tryz.underlying36 hIV.out) rfl ⟨_, rfl, ?_, HZ.out.2, nf_mk (fr0 _) (fr0 _), nf_mk (fr0 _) (fr0 _)⟩
 rw [ew]
 exact ki_mk i64_0 (z7arg _) (z8arg _ (GG.kept HZ.out.2)) (z9arg _)
end Go.Proofs.YtcaalcjcpddhaaaGreat
