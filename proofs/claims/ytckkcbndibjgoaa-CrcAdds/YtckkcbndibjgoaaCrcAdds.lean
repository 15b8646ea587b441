/-
  CrcAdds: sums of three texts of one length, and of all three put together by exclusive or, go together.
-/
import Derived.Test.YtckkcbndibjgoaaHc
import Derived.Test.YtckkcbndibjgoaaAd
import Derived.ChangeOld
namespace Go.Proofs.Ytckkcbndibjgoaa.crcAdds
open Go.ChangeShapes Go.WideShapes Go.ChangeAt Go.RowKit Crc
set_option linter.unusedVariables false
set_option linter.unusedSimpArgs false
set_option maxRecDepth 100000


set_option maxHeartbeats 4000000 in
theorem walk (w : World) (aa : Option Addr) (a : List Nat) (ca : Nat) (Xa : Bd w aa a) (Fa : Bytes a) (Ca : a.length ≤ ca) (ab : Option Addr) (b : List Nat) (cb : Nat) (Xb : Bd w ab b) (Fb : Bytes b) (Cb : b.length ≤ cb) (ac : Option Addr) (c : List Nat) (cc : Nat) (Xc : Bd w ac c) (Fc : Bytes c) (Cc : c.length ≤ cc) :
    Calls Try.prog 3 #[.slice aa a.length ca, .slice ab b.length cb, .slice ac c.length cc] w fun e w' => e = .returned (.bool true) ∧ Below w.heap.size w w' := by
  obtain ⟨i0, hi, hz0, hz1, hz2⟩ := info_parts Try.info5
  obtain ⟨n, hn⟩ : ∃ n, n = min (min a.length b.length) c.length := ⟨_, rfl⟩
  have na : n ≤ a.length := by omega
  have nb : n ≤ b.length := by omega
  have nc : n ≤ c.length := by omega
  have hmin : min (min (a.length : Int) (b.length : Int)) (c.length : Int) = (n : Int) := by omega
  go_enter Try.func3, Try.ntmps3
  go_upto_region 1 with fail
  go_cut [7] (fun t7 wx => t7 = .int .i64 n ∧ wx = w)
  case first =>
    go_wp2
    all_goals go_meet
    all_goals exact ⟨congrArg (Value.int .i64) (by omega), rfl⟩
  case rest =>
    obtain ⟨rfl, hwc⟩ := hcut
    rw [hwc]
    clear hwc wc hmin hn
    by_cases hL : 10000 < n
    · have hL2 : (10000 : Int) < (n : Int) := by omega
      go_wp2_with fail
      refine (heads_c _).mono ?_
      rintro e w9 ⟨rfl, hb⟩
      go_wp2
      go_ret
      exact ⟨rfl, hb⟩
    have hL2 : ¬ (10000 : Int) < (n : Int) := by omega
    go_wp2
    go_loopw [8, 9] (fun v i wr => ∃ q : Nat, q ≤ n ∧ i = .int .i64 q ∧ wr.ownsRow w.heap.size 5 1 v q (yv (xs a b c q)) ∧ Below w.heap.size w wr) (fun _ i _ => n - (intOf i).toNat)
    case atStart => exact ⟨0, Nat.zero_le _, rfl, World.ownsRow_nil _ _ _ _, Below.refl _ _⟩
    case round =>
      obtain ⟨q, hq, rfl, hown, hwr⟩ := hrel
      by_cases hlt : q < n
      · have hlt2 : (q : Int) < (n : Int) := by omega
        obtain ⟨ba, oa, rfl, hba, hca⟩ := Xa (by omega)
        obtain ⟨bb, ob, rfl, hbb, hcb⟩ := Xb (by omega)
        obtain ⟨bc, oc, rfl, hbc, hcc⟩ := Xc (by omega)
        have e1 := (hwr.cell (p := ⟨ba, oa + q, none⟩) hba).trans (hca q (by omega))
        have e2 := (hwr.cell (p := ⟨bb, ob + q, none⟩) hbb).trans (hcb q (by omega))
        have e3 := (hwr.cell (p := ⟨bc, oc + q, none⟩) hbc).trans (hcc q (by omega))
        have l1 : (q : Int) < (a.length : Int) := by omega
        have l2 : (q : Int) < (b.length : Int) := by omega
        have l3 : (q : Int) < (c.length : Int) := by omega
        have R1 : bits .xor .u8 (gt a q : Int) (gt b q : Int) = ((gt a q ^^^ gt b q : Nat) : Int) := u8_xor_nat _ _ (gt_lt Fa q) (gt_lt Fb q)
        have R2 : bits .xor .u8 ((gt a q ^^^ gt b q : Nat) : Int) (gt c q : Int) = ((xr a b c q : Nat) : Int) := u8_xor_nat _ _ (Nat.xor_lt_two_pow (n := 8) (gt_lt Fa q) (gt_lt Fb q)) (gt_lt Fc q)
        have HS : Hid (w.heap.size ≤ wr.heap.size) := hwr.size
        have f1 := e1
        have f2 := e2
        have f3 := e3
        have hba' : ba < wr.heap.size := Nat.lt_of_lt_of_le hba hwr.size
        have hbb' : bb < wr.heap.size := Nat.lt_of_lt_of_le hbb hwr.size
        have hbc' : bc < wr.heap.size := Nat.lt_of_lt_of_le hbc hwr.size
        have SRC : Hid (0 < 1 → ∃ ad, some (⟨wr.heap.size, 0, none⟩ : Addr) = some ad ∧ ∀ j u, [Value.int .u8 (xr a b c q)][j]? = some u → (wr.alloc (.cells #[.int .u8 (xr a b c q)] 5)).drew.cell? (ad.add j) = some u) := fun _ => ⟨_, rfl, fun j u hj => by
          match j, hj with
          | 0, hj => simp at hj; subst hj; simp [Addr.add]⟩
        have ONE : Hid (∀ u ∈ [Value.int .u8 (xr a b c q)], u.oneCell' = true) := fun u hu => by simp at hu; subst hu; rfl
        have ML : Hid (q + 1 ≤ maxLen) := by show q + 1 ≤ maxLen; unfold maxLen; omega
        have MB : Hid ((q + 1) * 1 ≤ 140737488355328) := by show (q + 1) * 1 ≤ 140737488355328; omega
        have MS : Hid (w.heap.size ≤ (wr.alloc (.cells #[.int .u8 (xr a b c q)] 5)).drew.heap.size) := by
          have := HS.out
          show w.heap.size ≤ (wr.heap.push _).size
          simp; omega
        have BB : Hid (Below w.heap.size wr (wr.alloc (.cells #[.int .u8 (xr a b c q)] 5)).drew) := ((Below.refl _ _).alloc HS.out _).drew
        clear hca hcb hcc
        go_wp2
        go_region_held3 (fun w' => w'.cell? ⟨ba, oa + q, none⟩ = some (.int .u8 (gt a q)) ∧ w'.cell? ⟨bb, ob + q, none⟩ = some (.int .u8 (gt b q)) ∧ w'.cell? ⟨bc, oc + q, none⟩ = some (.int .u8 (gt c q))) (first | (with_reducible exact ⟨e1, e2, e3⟩) | (with_reducible exact ⟨p1, p2, p3⟩) | go_keep)
          (first | (refine step_append_u (w := (wr.alloc (.cells #[.int .u8 (xr a b c q)] 5)).drew) (by rfl) _ _ _ (by rfl) w.heap.size 5 i0 (.int .u8 0) 1 Try.underlying22 hi hz0 hz1 hz2 rfl u8 q (yv (xs a b c q)) (by rfl) (hown.alloc _) (some ⟨wr.heap.size, 0, none⟩) 1 1 [.int .u8 (xr a b c q)] (by rfl) rfl SRC.out ONE.out ML.out MB.out MS.out ?_; intro ao cp w3 own3 hle3 hB3 _ _ _; have hB4 := Below.trans BB.out hB3; have p1 := (hB4.cell (p := ⟨ba, oa + q, none⟩) hba).trans f1; have p2 := (hB4.cell (p := ⟨bb, ob + q, none⟩) hbb).trans f2; have p3 := (hB4.cell (p := ⟨bc, oc + q, none⟩) hbc).trans f3))
        rw [yv_snoc, ← xs_succ] at own3
        have HO : Hid (w3.ownsRow w.heap.size 5 1 (.slice ao (q + 1) cp) (q + 1) (yv (xs a b c (q + 1)))) := own3
        have hw3 := hwr.trans hB4
        clear own3 hown SRC ONE ML MB MS BB hB3 hB4 hi hz0 hz1 hz2
        go_wp2
        first
          | exact ⟨⟨q + 1, by omega, by go_num, HO.out, hw3⟩, by simp only [intOf]; omega⟩
          | (go_roundw
             case rel => exact ⟨q + 1, by omega, by go_num, HO.out, hw3⟩
             case measure => simp only [intOf]; omega)
      · obtain rfl : q = n := by omega
        obtain ⟨xa, xc, hv, hle, -⟩ := owns_shape hown
        subst hv
        have X0 : Bd wr xa (xs a b c q) := bd_own hown
        have E0 := sum_xs a b c q na nb nc
        have t1 : (a.take q).length = q := by simp; omega
        have t2 : (b.take q).length = q := by simp; omega
        have t3 : (c.take q).length = q := by simp; omega
        have z1 := sumL_lt _ (bytes_take Fa q)
        have z2 := sumL_lt _ (bytes_take Fb q)
        have z3 := sumL_lt _ (bytes_take Fc q)
        have S0 : Hid (∀ w0, Below wr.heap.size wr w0 → Calls Try.prog 8 #[.slice xa q xc] w0 fun e w' => e = .returned (.int .u32 ((sumL (a.take q) ^^^ sumL (b.take q) ^^^ sumL (c.take q) : Nat) : Int)) ∧ w' = w0) := fun w0 h => by
          have := sum_c xa (xs a b c q) xc w0 (X0.keep h) (bytes_xs a b c Fa Fb Fc q) (by rw [length_xs]; omega)
          rw [length_xs, E0] at this
          exact this
        have S1 : Hid (∀ w0, Below wr.heap.size wr w0 → Calls Try.prog 8 #[.slice aa q ca] w0 fun e w' => e = .returned (.int .u32 (sumL (a.take q))) ∧ w' = w0) := fun w0 h => by
          have := sum_c aa (a.take q) ca w0 (((Xa.keep hwr).keep h).take q na) (bytes_take Fa q) (by omega)
          rw [t1] at this
          exact this
        have S2 : Hid (∀ w0, Below wr.heap.size wr w0 → Calls Try.prog 8 #[.slice ab q cb] w0 fun e w' => e = .returned (.int .u32 (sumL (b.take q))) ∧ w' = w0) := fun w0 h => by
          have := sum_c ab (b.take q) cb w0 (((Xb.keep hwr).keep h).take q nb) (bytes_take Fb q) (by omega)
          rw [t2] at this
          exact this
        have S3 : Hid (∀ w0, Below wr.heap.size wr w0 → Calls Try.prog 8 #[.slice ac q cc] w0 fun e w' => e = .returned (.int .u32 (sumL (c.take q))) ∧ w' = w0) := fun w0 h => by
          have := sum_c ac (c.take q) cc w0 (((Xc.keep hwr).keep h).take q nc) (bytes_take Fc q) (by omega)
          rw [t3] at this
          exact this
        have R1 := u32_xor_nat _ _ z1 z2
        have R2 := u32_xor_nat _ _ (xor_lt _ _ z1 z2) z3
        clear E0 z1 z2 z3 t1 t2 t3 X0 hown
        generalize sumL (a.take q) = Z1 at *
        generalize sumL (b.take q) = Z2 at *
        generalize sumL (c.take q) = Z3 at *
        have ca1 : (q : Int) ≤ (ca : Int) := by omega
        have cb1 : (q : Int) ≤ (cb : Int) := by omega
        have cc1 : (q : Int) ≤ (cc : Int) := by omega
        go_wp2
        go_region_held3 (fun _ => True) (first | trivial | go_keep)
          (first | (go_at_call 8; first | (refine (S0.out _ (by repeat (first | exact Below.refl _ _ | apply Below.drew | apply below_drewN))).mono ?_; rintro e w2 ⟨rfl, rfl⟩) | (refine (S1.out _ (by repeat (first | exact Below.refl _ _ | apply Below.drew | apply below_drewN))).mono ?_; rintro e w3 ⟨rfl, rfl⟩) | (refine (S2.out _ (by repeat (first | exact Below.refl _ _ | apply Below.drew | apply below_drewN))).mono ?_; rintro e w4 ⟨rfl, rfl⟩) | (refine (S3.out _ (by repeat (first | exact Below.refl _ _ | apply Below.drew | apply below_drewN))).mono ?_; rintro e w5 ⟨rfl, rfl⟩)) | (go_at_call 7; refine (heads_c _).mono ?_; rintro e w9 ⟨rfl, hb⟩; have hw9 : Below w.heap.size w w9 := Below.trans hwr.drew (hb.mono hwr.size)))
        go_wp2
        go_ret
        exact ⟨rfl, hw9⟩

theorem lifted (os : Os) (started : os.Started) (H : Type) (enc : TypeId × Value → H) :
    ReturnsInHanded {} Try.checked os 3 .any (Rows.crcAddsSpec.pre6 enc Try.prog Try.f3 Rows.crcAddsRow.domain false) (Rows.crcAddsSpec.post enc Try.prog Try.f3 false true false false) := by
  refine returnsInHanded_of_change (C := Try.checked) own started (by kernel_rfl) Try.func3
    (ChangeSpec.witness6 (enc := enc) (C := Try.checked) false ⟨#[], #[.slice none 0 0, .slice none 0 0, .slice none 0 0], []⟩ 8 (by kernel_rfl) (by kernel_rfl) (by kernel_rfl) (by kernel_rfl)) ?_
  intro W base args ds gs before hval0 hW hcnd _
  have hval : ∀ (j : Nat) t v, Try.f3.params[j]? = some t → args[j]? = some v → Value.okWide Try.prog W .any base t v := hval0
  have hW' := hW
  obtain ⟨p, q, hA0, hV, rfl, hfz, hnd⟩ := hW
  have hA : DataW.TrodAll enc Try.prog W 0 (fun _ => true) true Try.f3.params.toList args.toList ds p := hA0
  rw [Try.params3] at hA hval
  obtain ⟨v0, vs0, d0, ds0, p0, q0, hargs, rfl, rfl, h0, r0⟩ := trodAll_cons hA
  obtain ⟨v1, vs1, d1, ds1, p1, q1, rfl, rfl, rfl, h1, r1⟩ := trodAll_cons r0
  obtain ⟨v2, vs2, d2, ds2, p2, q2, rfl, rfl, rfl, h2, r2⟩ := trodAll_cons r1
  obtain ⟨rfl, rfl, rfl⟩ := trodAll_nil r2
  obtain rfl : args = #[v0, v1, v2] := by cases args; simp_all
  obtain ⟨rfl, rfl⟩ := trodVars_none hV
  have k0 := h0
  have lt0 : ∀ x ∈ p0, x.block < W.heap.size := by obtain ⟨m, hm⟩ := k0; exact DataW.trod_lt m _ _ _ hm
  obtain ⟨aa, a, ca, rfl, ba1, ba2, ba3⟩ := open_bytes (hval 0 22 v0 rfl rfl) h0
  have k1 := h1
  have lt1 : ∀ x ∈ p1, x.block < W.heap.size := by obtain ⟨m, hm⟩ := k1; exact DataW.trod_lt m _ _ _ hm
  obtain ⟨ab, b, cb, rfl, bb1, bb2, bb3⟩ := open_bytes (hval 1 22 v1 rfl rfl) h1
  have k2 := h2
  have lt2 : ∀ x ∈ p2, x.block < W.heap.size := by obtain ⟨m, hm⟩ := k2; exact DataW.trod_lt m _ _ _ hm
  obtain ⟨ac, c, cc, rfl, bc1, bc2, bc3⟩ := open_bytes (hval 2 22 v2 rfl rfl) h2
  clear hA0 hval0
  refine (walk W aa a ca ba1 ba2 ba3 ab b cb bb1 bb2 bb3 ac c cc bc1 bc2 bc3).mono fun e W' ⟨he, bel⟩ => ?_
  subst he
  exact ⟨_, rfl, _, _, _, [], _, [], hW', trodAll_mk1 (shut_bool Try.underlying4 _), (trodAll_cons_mk (Below.trod laidOut (by kernel_rfl) (of_decide_eq_true (by kernel_rfl)) k0 bel lt0) (trodAll_cons_mk (Below.trod laidOut (by kernel_rfl) (of_decide_eq_true (by kernel_rfl)) k1 bel lt1) (trodAll_cons_mk (Below.trod laidOut (by kernel_rfl) (of_decide_eq_true (by kernel_rfl)) k2 bel lt2) trodAll_mk0))), rfl, bel.frame _, fun h => by cases h⟩

theorem over : Rows.crcAddsRow.holds Try.pinned (OpenSpec.ofChange Rows.crcAddsSpec) :=
  OpenClaim.holds_of_wide 3 Try.f3 rfl rfl rfl rfl rfl rfl rfl ⟨rfl, rfl, rfl, rfl, rfl⟩ rfl rfl rfl rfl rfl (by kernel_rfl) Try.func3 (by kernel_rfl)
    (of_decide_eq_true (by kernel_rfl)) (by unfold Func.isWrapper; first | (rw [if_pos (by decide +kernel)]; kernel_rfl) | (rw [if_neg (by decide +kernel)]; exact ⟨rfl, rfl⟩))
    (fun os started H enc _ => lifted os started H enc)

theorem proved : Rows.CrcAddsSaid := over
end Go.Proofs.Ytckkcbndibjgoaa.crcAdds
namespace Go.Proofs.Ytckkcbndibjgoaa
theorem crcAdds_holds : Rows.CrcAddsSaid := crcAdds.proved
#print axioms crcAdds_holds
end Go.Proofs.Ytckkcbndibjgoaa
