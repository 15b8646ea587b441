/-
  BwtCounts: symbols are as many as they were, and places of firsts rise by how often they stand.
-/
import Derived.Test.YtojjinjgmijgcaaBw8
import Derived.ChangeOld
import Derived.Deep.DeepCutAuto
namespace Go.Proofs.Ytojjinjgmijgcaa.bwtCounts
open Go.ChangeShapes Go.WideShapes Go.ChangeAt Go.RowKit
set_option linter.unusedVariables false
set_option linter.unusedSimpArgs false
set_option maxRecDepth 100000

theorem nd_at {w : World} {b off : Nat} {l : List Int} (h : Nd w (some ⟨b, off, none⟩) l) (i : Nat) (hi : i < l.length) : w.cell? ⟨b, off + i, none⟩ = some (.int .i64 (gi l i)) := by
  obtain ⟨b', off', e, _, hc⟩ := h (by omega)
  simp only [Option.some.injEq, Addr.mk.injEq] at e
  obtain ⟨rfl, rfl, _⟩ := e
  exact hc i hi
theorem first_step (t : List Nat) (c : Nat) : Su.first t (c + 1) = Su.first t c + Su.ct (fun q => decide (gt t q = c)) t.length := by
  unfold Su.first
  rw [Su.ct_split (a := fun q => decide (Su.sg t q < c + 1)) (b := fun q => decide (Su.sg t q < c)) (c := fun q => decide (gt t q = c)) fun i _ => ?_]
  · omega
  · show (decide (gt t i < c + 1)).toNat = (decide (gt t i < c)).toNat + _
    by_cases h : gt t i < c
    · rw [decide_eq_true h, decide_eq_true (show gt t i < c + 1 by omega), decide_eq_false (show ¬ gt t i = c by omega)]
      rfl
    · rw [decide_eq_false h]
      by_cases e : gt t i = c
      · rw [decide_eq_true e, decide_eq_true (show gt t i < c + 1 by omega)]
        rfl
      · rw [decide_eq_false e, decide_eq_false (show ¬ gt t i < c + 1 by omega)]
        rfl
theorem first_zero (t : List Nat) : Su.first t 0 = 1 := by
  unfold Su.first
  rw [Su.ct_up (k := 0) (Nat.zero_le _) (fun i hi => absurd hi (Nat.not_lt_zero _)) fun i _ _ => by simp]
theorem first_all {t : List Nat} (h : Bytes t) : Su.first t 256 = t.length + 1 := by
  unfold Su.first
  rw [Su.ct_up (k := t.length) (Nat.le_refl _) (fun i _ => decide_eq_true (Su.sg_lt h i)) fun i h1 h2 => absurd h2 (by omega)]
  omega

set_option maxHeartbeats 8000000 in
theorem walk (w : World) (ot : Option Addr) (t : List Nat) (ct : Nat) (Xt : Bd w ot t) (Ft : Bytes t) (Ct : t.length ≤ ct) (c : Int) (hc_ : 0 ≤ c ∧ c < 256) :
    Calls Try.prog 7 #[.slice ot t.length ct, .int .u8 c] w fun e w' => e = .returned (.bool true) ∧ Below w.heap.size w w' := by
  by_cases hL : 1500 < t.length
  · have hL2 : (1500 : Int) < (t.length : Int) := by omega
    go_enter Try.func7, Try.ntmps7
    go_wp2_with fail
    refine (heads18_c _).mono ?_
    rintro e w9 ⟨rfl, hb⟩
    go_wp2
    go_ret
    exact ⟨rfl, hb⟩
  have hL2 : ¬ (1500 : Int) < (t.length : Int) := by omega
  have M1 := hide (mmake_c ot t ct w Xt Ft Ct (by omega))
  have RL := Su.rw_le t
  obtain ⟨c, rfl⟩ := Int.eq_ofNat_of_zero_le hc_.1
  have hc : c < 256 := by omega
  obtain ⟨N, hN⟩ : ∃ N, Hid (N = Su.ct (fun q => decide (gt t q = c)) t.length) := ⟨_, rfl⟩
  have F1 : Hid (gt (Su.fs t) (c + 1) = gt (Su.fs t) c + N) := by
    rw [Su.gt_fs t _ (by omega), Su.gt_fs t _ (by omega), hN.out]
    exact first_step t c
  have F0 : Hid (gt (Su.fs t) 0 = 1) := by rw [Su.gt_fs t _ (by omega)]; exact first_zero t
  have FA : Hid (gt (Su.fs t) 256 = t.length + 1) := by rw [Su.gt_fs t _ (by omega)]; exact first_all Ft
  have FB : Hid (gt (Su.fs t) (c + 1) ≤ t.length + 1) := by rw [Su.gt_fs t _ (by omega)]; exact Su.first_le t _
  have NL : Hid (N = Su.ct (fun q => decide (gt (Su.La t) q = c)) t.length) := by
    rw [hN.out]
    exact (Su.ct_La t fun x => decide (x = c)).symm
  have R1 : Hid (∀ w0 lo lc co cc, MA w0 t lo lc co cc → Calls Try.prog 15 #[.agg #[.slice lo t.length lc, .int .i64 (Su.rk t 0 : Nat), .slice co 257 cc]] w0 fun e w' => e = .returned (.int .i64 (Su.rn (Su.La t) t.length : Nat)) ∧ Below w0.heap.size w0 w') := fun w0 lo lc co cc h => mruns_c Ft (by omega) w0 h
  have RN := Su.rn_le (Su.La t) t.length
  have LL := hide (Su.length_La t)
  have HBY := hide (Su.La_bytes Ft)
  have HBX := hide Ft
  obtain ⟨n, hn⟩ : ∃ n, Hid (n = t.length) := ⟨_, rfl⟩
  obtain ⟨R, hR⟩ : ∃ R, Hid (R = Su.rk t 0) := ⟨_, rfl⟩
  rw [← hn.out] at M1 R1 RN LL hL2 RL hN NL FA FB ⊢
  rw [← hR.out] at M1 R1 RL
  have HX := hide Xt
  have hn2 : n ≤ 1500 := by rw [hn.out]; omega
  clear Xt Ct hL Ft
  generalize Su.rn (Su.La t) n = rn at *
  go_enter Try.func7, Try.ntmps7
  go_wp2_with fail
  refine (M1.out).mono ?_
  rintro e w1 ⟨lo, lc, co, cc, rfl, hM, hb⟩
  have ba := below_alloc w1 (.cells #[.slice lo n lc, .int .i64 (R : Nat), .slice co 257 cc] 25)
  have BX := hide (Cel.new w1 [.slice lo n lc, .int .i64 (R : Nat), .slice co 257 cc] 25)
  have HM := hide (hM.keep ba)
  have HB := hide (hb.trans (ba.mono hb.size))
  clear hb hM M1 ba
  have HX1 := hide (HX.out.keep HB.out)
  obtain ⟨w2, hw2⟩ : ∃ w2, w2 = w1.alloc (.cells #[.slice lo n lc, .int .i64 (R : Nat), .slice co 257 cc] 25) := ⟨_, rfl⟩
  have c2 := BX.out.cell 2 rfl
  go_wp2
  rw [← hw2] at BX HM HB HX1
  generalize w1.heap.size = g1 at *
  go_loopw [7, 9] (fun v7 v9 wr => ∃ q v : Nat, q ≤ n ∧ v ≤ q ∧ v7 = .int .i64 v ∧ v9 = .int .i64 q ∧ Hid (v = Su.ct (fun q => decide (gt t q = c)) q) ∧ Hid (Below w2.heap.size w2 wr)) (fun _ v9 _ => n - (intOf v9).toNat)
  case atStart => exact ⟨0, 0, Nat.zero_le _, Nat.le_refl _, rfl, rfl, rfl, by rw [← hw2]; exact Below.refl _ _⟩
  case round =>
    clear hw2 c2
    obtain ⟨q, v, hq, hv, rfl, rfl, HV, HBr⟩ := hrel
    by_cases hlt : q < n
    · have hltz : (q : Int) < (n : Int) := by omega
      obtain ⟨b, off, rfl, hb0, hcc⟩ := HX1.out (by rw [← hn.out]; omega)
      have e1 := (HBr.out.cell (p := ⟨b, off + q, none⟩) hb0).trans (hcc q (by rw [← hn.out]; exact hlt))
      have CT : Hid (Su.ct (fun q => decide (gt t q = c)) (q + 1) = v + (decide (gt t q = c)).toNat) := by rw [HV.out]; rfl
      have g1' := gt_lt HBX.out q
      clear hcc HV
      generalize gt t q = x at *
      by_cases hxc : x = c
      · have hz : ((x : Int) == (c : Int)) = true := by simp; omega
        have hz2 : (x == c) = true := by simp; omega
        rw [decide_eq_true hxc] at CT
        have HXC := hide hxc
        clear hxc
        go_wp2
        exact ⟨⟨q + 1, v + 1, by omega, by omega, by go_num, by go_num, CT.out.symm, HBr⟩, by simp only [intOf]; omega⟩
      · have hz : ((x : Int) == (c : Int)) = false := by simp; omega
        have hz2 : (x == c) = false := by simp; omega
        rw [decide_eq_false hxc] at CT
        clear hxc
        go_wp2
        exact ⟨⟨q + 1, v, by omega, by omega, by go_num, by go_num, CT.out.symm, HBr⟩, by simp only [intOf]; omega⟩
    · obtain rfl : q = n := by omega
      obtain rfl : v = N := by rw [HV.out, hN.out]
      clear HV
      go_wp2
      obtain ⟨wo, rfl⟩ : ∃ wo, wo = wr := ⟨_, rfl⟩
      go_loopw [8, 10] (fun v8 v10 wr => ∃ p u : Nat, p ≤ q ∧ u ≤ p ∧ v8 = .int .i64 u ∧ v10 = .int .i64 p ∧ Hid (u = Su.ct (fun q => decide (gt (Su.La t) q = c)) p) ∧ Hid (Below w2.heap.size w2 wr)) (fun _ v10 _ => q - (intOf v10).toNat)
      case atStart => exact ⟨0, 0, Nat.zero_le _, Nat.le_refl _, rfl, rfl, rfl, HBr⟩
      case round =>
        clear HBr
        obtain ⟨p, u, hp, hu, rfl, rfl, HU, HBr⟩ := hrel
        have c0 := (BX.out.kept HBr.out).cell 0 rfl
        by_cases hlp : p < q
        · have hltz : (p : Int) < (q : Int) := by omega
          obtain ⟨b, off, rfl, hb0, hcc⟩ := HM.out.x (by rw [LL.out]; omega)
          have e1 := (HBr.out.cell (p := ⟨b, off + p, none⟩) hb0).trans (hcc p (by rw [LL.out]; exact hlp))
          have CT : Hid (Su.ct (fun q => decide (gt (Su.La t) q = c)) (p + 1) = u + (decide (gt (Su.La t) p = c)).toNat) := by rw [HU.out]; rfl
          have g1' := gt_lt HBY.out p
          clear hcc HU
          generalize gt (Su.La t) p = x at *
          by_cases hxc : x = c
          · have hz : ((x : Int) == (c : Int)) = true := by simp; omega
            have hz2 : (x == c) = true := by simp; omega
            rw [decide_eq_true hxc] at CT
            have HXC := hide hxc
            clear hxc
            go_wp2
            exact ⟨⟨p + 1, u + 1, by omega, by omega, by go_num, by go_num, CT.out.symm, HBr⟩, by simp only [intOf]; omega⟩
          · have hz : ((x : Int) == (c : Int)) = false := by simp; omega
            have hz2 : (x == c) = false := by simp; omega
            rw [decide_eq_false hxc] at CT
            clear hxc
            go_wp2
            exact ⟨⟨p + 1, u, by omega, by omega, by go_num, by go_num, CT.out.symm, HBr⟩, by simp only [intOf]; omega⟩
        · obtain rfl : p = q := by omega
          obtain rfl : u = v := by rw [HU.out, NL.out]
          have HMr := hide (HM.out.keep HBr.out)
          have BXr := hide (BX.out.kept HBr.out)
          have HBB : Hid (Below w.heap.size w wr) := HB.out.trans (HBr.out.mono HB.out.size)
          obtain ⟨b3, off3, rfl, hb3, hcc3⟩ := HM.out.n (by rw [length_toI, Su.length_fs]; omega)
          obtain ⟨x0, hx0⟩ : ∃ x0, Hid (x0 = gt (Su.fs t) c) := ⟨_, rfl⟩
          have C1 : Hid (∀ w', MA w' t lo lc (some ⟨b3, off3, none⟩) cc → w'.cell? ⟨b3, off3 + (c + 1), none⟩ = some (.int .i64 ((x0 : Int) + (u : Int)))) := fun w' h => by
            have := nd_at h.n (c + 1) (by rw [length_toI, Su.length_fs]; omega)
            rw [gi_toI, F1.out, ← hx0.out, Int.natCast_add] at this
            exact this
          have C2 : Hid (∀ w', MA w' t lo lc (some ⟨b3, off3, none⟩) cc → w'.cell? ⟨b3, off3 + c, none⟩ = some (.int .i64 (x0 : Int))) := fun w' h => by
            have := nd_at h.n c (by rw [length_toI, Su.length_fs]; omega)
            rw [gi_toI, ← hx0.out] at this
            exact this
          have C3 : Hid (∀ w', MA w' t lo lc (some ⟨b3, off3, none⟩) cc → w'.cell? ⟨b3, off3, none⟩ = some (.int .i64 1)) := fun w' h => by
            have := nd_at h.n 0 (by rw [length_toI, Su.length_fs]; omega)
            rw [gi_toI, F0.out] at this
            exact this
          have C4 : Hid (∀ w', MA w' t lo lc (some ⟨b3, off3, none⟩) cc → w'.cell? ⟨b3, off3 + 256, none⟩ = some (.int .i64 ((p : Int) + 1))) := fun w' h => by
            have := nd_at h.n 256 (by rw [length_toI, Su.length_fs]; omega)
            rw [gi_toI, FA.out, Int.natCast_add] at this
            exact this
          have xb : x0 + u ≤ p + 1 := by have := FB.out; rw [F1.out, ← hx0.out] at this; exact this
          have wx1 : IntKind.i64.wrap ((x0 : Int) + (u : Int) - (x0 : Int)) = (u : Int) := by rw [IntKind.wrap_i64]; omega
          have wx2 : IntKind.i64.wrap ((c : Int) + 1) = (c : Int) + 1 := by rw [IntKind.wrap_i64]; omega
          have wx3 : IntKind.i64.wrap ((p : Int) + 1) = (p : Int) + 1 := by rw [IntKind.wrap_i64]; omega
          have wx0 : IntKind.i64.wrap (c : Int) = (c : Int) := by rw [IntKind.wrap_i64]; omega
          have cz0 : (0 : Int) ≤ (c : Int) + 1 := by omega
          have cz1 : (c : Int) + 1 < 257 := by omega
          have cz2 : (c : Int) < 257 := by omega
          have rz : (rn : Int) ≤ (p : Int) := by omega
          have tc : ((c : Int) + 1).toNat = c + 1 := by omega
          clear HU hcc3 F1 F0 FA FB NL HX HX1 HM BX HB HBr hx0
          go_wp2
          clear c0
          refine region_g [] (fun w' => Cel w' g1 [.slice lo p lc, .int .i64 (R : Nat), .slice (some ⟨b3, off3, none⟩) 257 cc] 25 ∧ MA w' t lo lc (some ⟨b3, off3, none⟩) cc ∧ Below w.heap.size w w') (by kernel_rfl) ?_
          have hS : (fun w' => Cel w' g1 [.slice lo p lc, .int .i64 (R : Nat), .slice (some ⟨b3, off3, none⟩) 257 cc] 25 ∧ MA w' t lo lc (some ⟨b3, off3, none⟩) cc ∧ Below w.heap.size w w') wr.drew := ⟨BXr.out.drew, HMr.out.keep ((Below.refl _ _).drew), HBB.out.drew⟩
          clear BXr HMr HBB
          generalize wr.drew = V at *
          refine AnyG.take 0 (v := ?vv1) rfl (by kernel_rfl) (by kernel_rfl) (by kernel_rfl) (by kernel_rfl) (fun _ _ _ h => h) hS ?hy1 (by rfl) ?rest1
          case hy1 =>
            intro w0 h0
            go_simp
            try with_reducible rfl
          simp only [Act.put, List.getElem_toArray, List.getElem_cons_zero, List.getElem_cons_succ, List.setIfInBounds_toArray, List.set_cons_zero, List.set_cons_succ]
          refine AnyG.take 1 (v := ?vv2) rfl (by kernel_rfl) (by kernel_rfl) (by kernel_rfl) (by kernel_rfl) (fun _ _ _ h => h) hS ?hy2 (by rfl) ?rest2
          case hy2 =>
            intro w0 h0
            go_simp
            try with_reducible rfl
          simp only [Act.put, List.getElem_toArray, List.getElem_cons_zero, List.getElem_cons_succ, List.setIfInBounds_toArray, List.set_cons_zero, List.set_cons_succ]
          refine AnyG.take 2 (v := ?vv3) rfl (by kernel_rfl) (by kernel_rfl) (by kernel_rfl) (by kernel_rfl) (fun _ _ _ h => h) hS ?hy3 (by rfl) ?rest3
          case hy3 =>
            intro w0 h0
            go_simp
            try with_reducible rfl
          simp only [Act.put, List.getElem_toArray, List.getElem_cons_zero, List.getElem_cons_succ, List.setIfInBounds_toArray, List.set_cons_zero, List.set_cons_succ]
          refine AnyG.take 3 (v := ?vv4) rfl (by kernel_rfl) (by kernel_rfl) (by kernel_rfl) (by kernel_rfl) (fun _ _ _ h => h) hS ?hy4 (by rfl) ?rest4
          case hy4 =>
            intro w0 h0
            go_simp
            try with_reducible rfl
          simp only [Act.put, List.getElem_toArray, List.getElem_cons_zero, List.getElem_cons_succ, List.setIfInBounds_toArray, List.set_cons_zero, List.set_cons_succ]
          refine AnyG.take 4 (v := ?vv5) rfl (by kernel_rfl) (by kernel_rfl) (by kernel_rfl) (by kernel_rfl) (fun _ _ _ h => h) hS ?hy5 (by rfl) ?rest5
          case hy5 =>
            intro w0 h0
            go_simp
            try with_reducible rfl
          simp only [Act.put, List.getElem_toArray, List.getElem_cons_zero, List.getElem_cons_succ, List.setIfInBounds_toArray, List.set_cons_zero, List.set_cons_succ]
          refine AnyG.take 5 (v := ?vv6) rfl (by kernel_rfl) (by kernel_rfl) (by kernel_rfl) (by kernel_rfl) (fun _ _ _ h => h) hS ?hy6 (by rfl) ?rest6
          case hy6 =>
            intro w0 h0
            have c3 := h0.1.cell 0 rfl
            have c4 := h0.1.cell 1 rfl
            have c5 := h0.1.cell 2 rfl
            go_simp
            try with_reducible rfl
          simp only [Act.put, List.getElem_toArray, List.getElem_cons_zero, List.getElem_cons_succ, List.setIfInBounds_toArray, List.set_cons_zero, List.set_cons_succ]
          refine AnyG.take 6 (v := ?vv7) rfl (by kernel_rfl) (by kernel_rfl) (by kernel_rfl) (by kernel_rfl) (fun _ _ _ h => h) hS ?hy7 (by rfl) ?rest7
          case hy7 =>
            intro w0 h0
            go_simp
            try with_reducible rfl
          simp only [Act.put, List.getElem_toArray, List.getElem_cons_zero, List.getElem_cons_succ, List.setIfInBounds_toArray, List.set_cons_zero, List.set_cons_succ]
          refine AnyG.take 7 (v := ?vv8) rfl (by kernel_rfl) (by kernel_rfl) (by kernel_rfl) (by kernel_rfl) (fun _ _ _ h => h) hS ?hy8 (by rfl) ?rest8
          case hy8 =>
            intro w0 h0
            go_simp
            try with_reducible rfl
          simp only [Act.put, List.getElem_toArray, List.getElem_cons_zero, List.getElem_cons_succ, List.setIfInBounds_toArray, List.set_cons_zero, List.set_cons_succ]
          refine AnyG.take 8 (v := .int .i64 ((c : Int) + 1)) rfl (by kernel_rfl) (by kernel_rfl) (by kernel_rfl) (by kernel_rfl) (fun _ _ _ h => h) hS ?hz9 (by rfl) ?rst9
          case hz9 =>
            intro w0 h0
            go_simp
            try (simp only [wx1])
            try rfl
          simp only [Act.put, List.getElem_toArray, List.getElem_cons_zero, List.getElem_cons_succ, List.setIfInBounds_toArray, List.set_cons_zero, List.set_cons_succ]
          refine AnyG.take 9 (v := ?vv10) rfl (by kernel_rfl) (by kernel_rfl) (by kernel_rfl) (by kernel_rfl) (fun _ _ _ h => h) hS ?hy10 (by rfl) ?rest10
          case hy10 =>
            intro w0 h0
            go_simp
            try with_reducible rfl
          simp only [Act.put, List.getElem_toArray, List.getElem_cons_zero, List.getElem_cons_succ, List.setIfInBounds_toArray, List.set_cons_zero, List.set_cons_succ]
          refine AnyG.take 10 (v := ?vv11) rfl (by kernel_rfl) (by kernel_rfl) (by kernel_rfl) (by kernel_rfl) (fun _ _ _ h => h) hS ?hy11 (by rfl) ?rest11
          case hy11 =>
            intro w0 h0
            have c6 := C1.out _ h0.2.1
            go_simp
            try with_reducible rfl
          simp only [Act.put, List.getElem_toArray, List.getElem_cons_zero, List.getElem_cons_succ, List.setIfInBounds_toArray, List.set_cons_zero, List.set_cons_succ]
          refine AnyG.take 11 (v := ?vv12) rfl (by kernel_rfl) (by kernel_rfl) (by kernel_rfl) (by kernel_rfl) (fun _ _ _ h => h) hS ?hy12 (by rfl) ?rest12
          case hy12 =>
            intro w0 h0
            go_simp
            try with_reducible rfl
          simp only [Act.put, List.getElem_toArray, List.getElem_cons_zero, List.getElem_cons_succ, List.setIfInBounds_toArray, List.set_cons_zero, List.set_cons_succ]
          refine AnyG.take 12 (v := ?vv13) rfl (by kernel_rfl) (by kernel_rfl) (by kernel_rfl) (by kernel_rfl) (fun _ _ _ h => h) hS ?hy13 (by rfl) ?rest13
          case hy13 =>
            intro w0 h0
            have c3 := h0.1.cell 0 rfl
            have c4 := h0.1.cell 1 rfl
            have c5 := h0.1.cell 2 rfl
            go_simp
            try with_reducible rfl
          simp only [Act.put, List.getElem_toArray, List.getElem_cons_zero, List.getElem_cons_succ, List.setIfInBounds_toArray, List.set_cons_zero, List.set_cons_succ]
          refine AnyG.take 13 (v := ?vv14) rfl (by kernel_rfl) (by kernel_rfl) (by kernel_rfl) (by kernel_rfl) (fun _ _ _ h => h) hS ?hy14 (by rfl) ?rest14
          case hy14 =>
            intro w0 h0
            go_simp
            try with_reducible rfl
          simp only [Act.put, List.getElem_toArray, List.getElem_cons_zero, List.getElem_cons_succ, List.setIfInBounds_toArray, List.set_cons_zero, List.set_cons_succ]
          refine AnyG.take 14 (v := ?vv15) rfl (by kernel_rfl) (by kernel_rfl) (by kernel_rfl) (by kernel_rfl) (fun _ _ _ h => h) hS ?hy15 (by rfl) ?rest15
          case hy15 =>
            intro w0 h0
            go_simp
            try with_reducible rfl
          simp only [Act.put, List.getElem_toArray, List.getElem_cons_zero, List.getElem_cons_succ, List.setIfInBounds_toArray, List.set_cons_zero, List.set_cons_succ]
          refine AnyG.take 15 (v := ?vv16) rfl (by kernel_rfl) (by kernel_rfl) (by kernel_rfl) (by kernel_rfl) (fun _ _ _ h => h) hS ?hy16 (by rfl) ?rest16
          case hy16 =>
            intro w0 h0
            have c6 := C2.out _ h0.2.1
            go_simp
            try with_reducible rfl
          simp only [Act.put, List.getElem_toArray, List.getElem_cons_zero, List.getElem_cons_succ, List.setIfInBounds_toArray, List.set_cons_zero, List.set_cons_succ]
          refine AnyG.take 16 (v := .int .i64 (u : Nat)) rfl (by kernel_rfl) (by kernel_rfl) (by kernel_rfl) (by kernel_rfl) (fun _ _ _ h => h) hS ?hz17 (by rfl) ?rst17
          case hz17 =>
            intro w0 h0
            go_simp
            try (simp only [wx1])
            try rfl
          simp only [Act.put, List.getElem_toArray, List.getElem_cons_zero, List.getElem_cons_succ, List.setIfInBounds_toArray, List.set_cons_zero, List.set_cons_succ]
          refine AnyG.take 17 (v := ?vv18) rfl (by kernel_rfl) (by kernel_rfl) (by kernel_rfl) (by kernel_rfl) (fun _ _ _ h => h) hS ?hy18 (by rfl) ?rest18
          case hy18 =>
            intro w0 h0
            go_simp
            try with_reducible rfl
          simp only [Act.put, List.getElem_toArray, List.getElem_cons_zero, List.getElem_cons_succ, List.setIfInBounds_toArray, List.set_cons_zero, List.set_cons_succ]
          refine AnyG.take 18 (v := ?vv19) rfl (by kernel_rfl) (by kernel_rfl) (by kernel_rfl) (by kernel_rfl) (fun _ _ _ h => h) hS ?hy19 (by rfl) ?rest19
          case hy19 =>
            intro w0 h0
            go_simp
            try with_reducible rfl
          simp only [Act.put, List.getElem_toArray, List.getElem_cons_zero, List.getElem_cons_succ, List.setIfInBounds_toArray, List.set_cons_zero, List.set_cons_succ]
          refine AnyG.take 19 (v := ?vv20) rfl (by kernel_rfl) (by kernel_rfl) (by kernel_rfl) (by kernel_rfl) (fun _ _ _ h => h) hS ?hy20 (by rfl) ?rest20
          case hy20 =>
            intro w0 h0
            go_simp
            try with_reducible rfl
          simp only [Act.put, List.getElem_toArray, List.getElem_cons_zero, List.getElem_cons_succ, List.setIfInBounds_toArray, List.set_cons_zero, List.set_cons_succ]
          refine AnyG.take 20 (v := ?vv21) rfl (by kernel_rfl) (by kernel_rfl) (by kernel_rfl) (by kernel_rfl) (fun _ _ _ h => h) hS ?hy21 (by rfl) ?rest21
          case hy21 =>
            intro w0 h0
            go_simp
            try with_reducible rfl
          simp only [Act.put, List.getElem_toArray, List.getElem_cons_zero, List.getElem_cons_succ, List.setIfInBounds_toArray, List.set_cons_zero, List.set_cons_succ]
          refine AnyG.take 21 (v := ?vv22) rfl (by kernel_rfl) (by kernel_rfl) (by kernel_rfl) (by kernel_rfl) (fun _ _ _ h => h) hS ?hy22 (by rfl) ?rest22
          case hy22 =>
            intro w0 h0
            go_simp
            try with_reducible rfl
          simp only [Act.put, List.getElem_toArray, List.getElem_cons_zero, List.getElem_cons_succ, List.setIfInBounds_toArray, List.set_cons_zero, List.set_cons_succ]
          refine AnyG.take 22 (v := ?vv23) rfl (by kernel_rfl) (by kernel_rfl) (by kernel_rfl) (by kernel_rfl) (fun _ _ _ h => h) hS ?hy23 (by rfl) ?rest23
          case hy23 =>
            intro w0 h0
            have c3 := h0.1.cell 0 rfl
            have c4 := h0.1.cell 1 rfl
            have c5 := h0.1.cell 2 rfl
            go_simp
            try with_reducible rfl
          simp only [Act.put, List.getElem_toArray, List.getElem_cons_zero, List.getElem_cons_succ, List.setIfInBounds_toArray, List.set_cons_zero, List.set_cons_succ]
          refine AnyG.take 23 (v := ?vv24) rfl (by kernel_rfl) (by kernel_rfl) (by kernel_rfl) (by kernel_rfl) (fun _ _ _ h => h) hS ?hy24 (by rfl) ?rest24
          case hy24 =>
            intro w0 h0
            go_simp
            try with_reducible rfl
          simp only [Act.put, List.getElem_toArray, List.getElem_cons_zero, List.getElem_cons_succ, List.setIfInBounds_toArray, List.set_cons_zero, List.set_cons_succ]
          refine AnyG.take 24 (v := ?vv25) rfl (by kernel_rfl) (by kernel_rfl) (by kernel_rfl) (by kernel_rfl) (fun _ _ _ h => h) hS ?hy25 (by rfl) ?rest25
          case hy25 =>
            intro w0 h0
            have c6 := C3.out _ h0.2.1
            go_simp
            try with_reducible rfl
          simp only [Act.put, List.getElem_toArray, List.getElem_cons_zero, List.getElem_cons_succ, List.setIfInBounds_toArray, List.set_cons_zero, List.set_cons_succ]
          refine AnyG.take 25 (v := ?vv26) rfl (by kernel_rfl) (by kernel_rfl) (by kernel_rfl) (by kernel_rfl) (fun _ _ _ h => h) hS ?hy26 (by rfl) ?rest26
          case hy26 =>
            intro w0 h0
            go_simp
            try with_reducible rfl
          simp only [Act.put, List.getElem_toArray, List.getElem_cons_zero, List.getElem_cons_succ, List.setIfInBounds_toArray, List.set_cons_zero, List.set_cons_succ]
          refine AnyG.take 26 (v := ?vv27) rfl (by kernel_rfl) (by kernel_rfl) (by kernel_rfl) (by kernel_rfl) (fun _ _ _ h => h) hS ?hy27 (by rfl) ?rest27
          case hy27 =>
            intro w0 h0
            go_simp
            try with_reducible rfl
          simp only [Act.put, List.getElem_toArray, List.getElem_cons_zero, List.getElem_cons_succ, List.setIfInBounds_toArray, List.set_cons_zero, List.set_cons_succ]
          refine AnyG.take 27 (v := ?vv28) rfl (by kernel_rfl) (by kernel_rfl) (by kernel_rfl) (by kernel_rfl) (fun _ _ _ h => h) hS ?hy28 (by rfl) ?rest28
          case hy28 =>
            intro w0 h0
            go_simp
            try with_reducible rfl
          simp only [Act.put, List.getElem_toArray, List.getElem_cons_zero, List.getElem_cons_succ, List.setIfInBounds_toArray, List.set_cons_zero, List.set_cons_succ]
          refine AnyG.take 28 (v := ?vv29) rfl (by kernel_rfl) (by kernel_rfl) (by kernel_rfl) (by kernel_rfl) (fun _ _ _ h => h) hS ?hy29 (by rfl) ?rest29
          case hy29 =>
            intro w0 h0
            go_simp
            try with_reducible rfl
          simp only [Act.put, List.getElem_toArray, List.getElem_cons_zero, List.getElem_cons_succ, List.setIfInBounds_toArray, List.set_cons_zero, List.set_cons_succ]
          refine AnyG.take 29 (v := ?vv30) rfl (by kernel_rfl) (by kernel_rfl) (by kernel_rfl) (by kernel_rfl) (fun _ _ _ h => h) hS ?hy30 (by rfl) ?rest30
          case hy30 =>
            intro w0 h0
            have c3 := h0.1.cell 0 rfl
            have c4 := h0.1.cell 1 rfl
            have c5 := h0.1.cell 2 rfl
            go_simp
            try with_reducible rfl
          simp only [Act.put, List.getElem_toArray, List.getElem_cons_zero, List.getElem_cons_succ, List.setIfInBounds_toArray, List.set_cons_zero, List.set_cons_succ]
          refine AnyG.take 30 (v := ?vv31) rfl (by kernel_rfl) (by kernel_rfl) (by kernel_rfl) (by kernel_rfl) (fun _ _ _ h => h) hS ?hy31 (by rfl) ?rest31
          case hy31 =>
            intro w0 h0
            go_simp
            try with_reducible rfl
          simp only [Act.put, List.getElem_toArray, List.getElem_cons_zero, List.getElem_cons_succ, List.setIfInBounds_toArray, List.set_cons_zero, List.set_cons_succ]
          refine AnyG.take 31 (v := ?vv32) rfl (by kernel_rfl) (by kernel_rfl) (by kernel_rfl) (by kernel_rfl) (fun _ _ _ h => h) hS ?hy32 (by rfl) ?rest32
          case hy32 =>
            intro w0 h0
            have c6 := C4.out _ h0.2.1
            go_simp
            try with_reducible rfl
          simp only [Act.put, List.getElem_toArray, List.getElem_cons_zero, List.getElem_cons_succ, List.setIfInBounds_toArray, List.set_cons_zero, List.set_cons_succ]
          refine AnyG.take 32 (v := ?vv33) rfl (by kernel_rfl) (by kernel_rfl) (by kernel_rfl) (by kernel_rfl) (fun _ _ _ h => h) hS ?hy33 (by rfl) ?rest33
          case hy33 =>
            intro w0 h0
            go_simp
            try with_reducible rfl
          simp only [Act.put, List.getElem_toArray, List.getElem_cons_zero, List.getElem_cons_succ, List.setIfInBounds_toArray, List.set_cons_zero, List.set_cons_succ]
          refine AnyG.take 33 (v := ?vv34) rfl (by kernel_rfl) (by kernel_rfl) (by kernel_rfl) (by kernel_rfl) (fun _ _ _ h => h) hS ?hy34 (by rfl) ?rest34
          case hy34 =>
            intro w0 h0
            go_simp
            try with_reducible rfl
          simp only [Act.put, List.getElem_toArray, List.getElem_cons_zero, List.getElem_cons_succ, List.setIfInBounds_toArray, List.set_cons_zero, List.set_cons_succ]
          refine AnyG.take 34 (v := .int .i64 ((p : Int) + 1)) rfl (by kernel_rfl) (by kernel_rfl) (by kernel_rfl) (by kernel_rfl) (fun _ _ _ h => h) hS ?hz35 (by rfl) ?rst35
          case hz35 =>
            intro w0 h0
            go_simp
            try (simp only [wx1])
            try rfl
          simp only [Act.put, List.getElem_toArray, List.getElem_cons_zero, List.getElem_cons_succ, List.setIfInBounds_toArray, List.set_cons_zero, List.set_cons_succ]
          refine AnyG.take 35 (v := ?vv36) rfl (by kernel_rfl) (by kernel_rfl) (by kernel_rfl) (by kernel_rfl) (fun _ _ _ h => h) hS ?hy36 (by rfl) ?rest36
          case hy36 =>
            intro w0 h0
            go_simp
            try with_reducible rfl
          simp only [Act.put, List.getElem_toArray, List.getElem_cons_zero, List.getElem_cons_succ, List.setIfInBounds_toArray, List.set_cons_zero, List.set_cons_succ]
          refine AnyG.take 36 (v := ?vv37) rfl (by kernel_rfl) (by kernel_rfl) (by kernel_rfl) (by kernel_rfl) (fun _ _ _ h => h) hS ?hy37 (by rfl) ?rest37
          case hy37 =>
            intro w0 h0
            go_simp
            try with_reducible rfl
          simp only [Act.put, List.getElem_toArray, List.getElem_cons_zero, List.getElem_cons_succ, List.setIfInBounds_toArray, List.set_cons_zero, List.set_cons_succ]
          refine AnyG.take 37 (v := ?vv38) rfl (by kernel_rfl) (by kernel_rfl) (by kernel_rfl) (by kernel_rfl) (fun _ _ _ h => h) hS ?hy38 (by rfl) ?rest38
          case hy38 =>
            intro w0 h0
            go_simp
            try with_reducible rfl
          simp only [Act.put, List.getElem_toArray, List.getElem_cons_zero, List.getElem_cons_succ, List.setIfInBounds_toArray, List.set_cons_zero, List.set_cons_succ]
          refine AnyG.take 38 (v := ?vv39) rfl (by kernel_rfl) (by kernel_rfl) (by kernel_rfl) (by kernel_rfl) (fun _ _ _ h => h) hS ?hy39 (by rfl) ?rest39
          case hy39 =>
            intro w0 h0
            have c3 := h0.1.cell 0 rfl
            have c4 := h0.1.cell 1 rfl
            have c5 := h0.1.cell 2 rfl
            go_simp
            try with_reducible rfl
          simp only [Act.put, List.getElem_toArray, List.getElem_cons_zero, List.getElem_cons_succ, List.setIfInBounds_toArray, List.set_cons_zero, List.set_cons_succ]
          refine AnyG.take 40 (v := ?vv40) rfl (by kernel_rfl) (by kernel_rfl) (by kernel_rfl) (by kernel_rfl) (fun _ _ _ h => h) hS ?hy40 (by rfl) ?rest40
          case hy40 =>
            intro w0 h0
            go_simp
            try with_reducible rfl
          simp only [Act.put, List.getElem_toArray, List.getElem_cons_zero, List.getElem_cons_succ, List.setIfInBounds_toArray, List.set_cons_zero, List.set_cons_succ]
          refine AnyG.take 41 (v := ?vv41) rfl (by kernel_rfl) (by kernel_rfl) (by kernel_rfl) (by kernel_rfl) (fun _ _ _ h => h) hS ?hy41 (by rfl) ?rest41
          case hy41 =>
            intro w0 h0
            go_simp
            try with_reducible rfl
          simp only [Act.put, List.getElem_toArray, List.getElem_cons_zero, List.getElem_cons_succ, List.setIfInBounds_toArray, List.set_cons_zero, List.set_cons_succ]
          refine AnyG.one 39 (by kernel_rfl) rfl ?_
          intro K hK
          go_simp
          refine (R1.out _ _ _ _ _ hS.2.1).mono ?_
          rintro e w3 ⟨rfl, hb⟩
          have hS2 := And.intro (hS.1.kept hb) (And.intro (hS.2.1.keep hb) (hS.2.2.trans (hb.mono hS.2.2.size)))
          clear hb hS
          refine hK.out _ _ (fun _ => hS2) ?_
          clear hK K
          try simp only [Act.put, List.getElem_toArray, List.getElem_cons_zero, List.getElem_cons_succ, List.setIfInBounds_toArray, List.set_cons_zero, List.set_cons_succ]
          refine AnyG.take 42 (v := ?vv42) rfl (by kernel_rfl) (by kernel_rfl) (by kernel_rfl) (by kernel_rfl) (fun _ _ _ h => h) hS2 ?hy42 (by rfl) ?rest42
          case hy42 =>
            intro w0 h0
            go_simp
            try with_reducible rfl
          simp only [Act.put, List.getElem_toArray, List.getElem_cons_zero, List.getElem_cons_succ, List.setIfInBounds_toArray, List.set_cons_zero, List.set_cons_succ]
          refine AnyG.take 43 (v := ?vv43) rfl (by kernel_rfl) (by kernel_rfl) (by kernel_rfl) (by kernel_rfl) (fun _ _ _ h => h) hS2 ?hy43 (by rfl) ?rest43
          case hy43 =>
            intro w0 h0
            go_simp
            try with_reducible rfl
          simp only [Act.put, List.getElem_toArray, List.getElem_cons_zero, List.getElem_cons_succ, List.setIfInBounds_toArray, List.set_cons_zero, List.set_cons_succ]
          refine AnyG.take 44 (v := ?vv44) rfl (by kernel_rfl) (by kernel_rfl) (by kernel_rfl) (by kernel_rfl) (fun _ _ _ h => h) hS2 ?hy44 (by rfl) ?rest44
          case hy44 =>
            intro w0 h0
            go_simp
            try with_reducible rfl
          simp only [Act.put, List.getElem_toArray, List.getElem_cons_zero, List.getElem_cons_succ, List.setIfInBounds_toArray, List.set_cons_zero, List.set_cons_succ]
          refine AnyG.one 45 (by kernel_rfl) rfl ?_
          intro K hK
          go_simp
          refine (heads18_c _).mono ?_
          rintro e w4 ⟨rfl, hb⟩
          have hS3 := And.intro (hS2.1.kept hb) (And.intro (hS2.2.1.keep hb) (hS2.2.2.trans (hb.mono hS2.2.2.size)))
          clear hb hS2
          refine hK.out _ _ (fun _ => hS3) ?_
          clear hK K
          try simp only [Act.put, List.getElem_toArray, List.getElem_cons_zero, List.getElem_cons_succ, List.setIfInBounds_toArray, List.set_cons_zero, List.set_cons_succ]
          refine AnyG.take 46 (v := ?vv45) rfl (by kernel_rfl) (by kernel_rfl) (by kernel_rfl) (by kernel_rfl) (fun _ _ _ h => h) hS3 ?hy45 (by rfl) ?rest45
          case hy45 =>
            intro w0 h0
            go_simp
            try with_reducible rfl
          simp only [Act.put, List.getElem_toArray, List.getElem_cons_zero, List.getElem_cons_succ, List.setIfInBounds_toArray, List.set_cons_zero, List.set_cons_succ]
          refine AnyG.one 47 (by kernel_rfl) rfl ?_
          intro K hK
          go_simp
          refine hK.out _ _ (fun _ => hS3) ?_
          clear hK K
          try simp only [Act.put, List.getElem_toArray, List.getElem_cons_zero, List.getElem_cons_succ, List.setIfInBounds_toArray, List.set_cons_zero, List.set_cons_succ]
          refine AnyG.done (by kernel_rfl) ?_ _
          have HBF := hide hS3.2.2
          clear hS3
          go_wp2
          go_ret
          exact ⟨rfl, HBF.out⟩

theorem lifted (os : Os) (started : os.Started) (H : Type) (enc : TypeId × Value → H) :
    ReturnsInHanded {} Try.checked os 7 .any (Rows.bwtCountsSpec.pre6 enc Try.prog Try.f7 Rows.bwtCountsRow.domain false) (Rows.bwtCountsSpec.post enc Try.prog Try.f7 false true false false) := by
  refine returnsInHanded_of_change (C := Try.checked) own started (by kernel_rfl) Try.func7
    (ChangeSpec.witness6 (enc := enc) (C := Try.checked) false ⟨#[], #[.slice none 0 0, .int .u8 0], []⟩ 8 (by kernel_rfl) (by kernel_rfl) (by kernel_rfl) (by kernel_rfl)) ?_
  intro W base args ds gs before hval0 hW hcnd _
  have hval : ∀ (j : Nat) t v, Try.f7.params[j]? = some t → args[j]? = some v → Value.okWide Try.prog W .any base t v := hval0
  have hW' := hW
  obtain ⟨p, q, hA0, hV, rfl, hfz, hnd⟩ := hW
  have hA : DataW.TrodAll enc Try.prog W 0 (fun _ => true) true Try.f7.params.toList args.toList ds p := hA0
  rw [Try.params7] at hA hval
  obtain ⟨v0, vs0, d0, ds0, p0, q0, hargs, rfl, rfl, h0, r0⟩ := trodAll_cons hA
  obtain ⟨v1, vs1, d1, ds1, p1, q1, rfl, rfl, rfl, h1, r1⟩ := trodAll_cons r0
  obtain ⟨rfl, rfl, rfl⟩ := trodAll_nil r1
  obtain rfl : args = #[v0, v1] := by cases args; simp_all
  obtain ⟨rfl, rfl⟩ := trodVars_none hV
  have k0 := h0
  have lt0 : ∀ x ∈ p0, x.block < W.heap.size := by obtain ⟨m, hm⟩ := k0; exact DataW.trod_lt m _ _ _ hm
  obtain ⟨ot, t, ct, rfl, b01, b02, b03⟩ := open_bytes (hval 0 22 v0 rfl rfl) h0
  obtain ⟨c, rfl, rfl, rfl, w1⟩ := open_int Try.underlying5 (hval 1 5 v1 rfl rfl) h1
  clear hA0 hval0
  refine (walk W ot t ct b01 b02 b03 c (u8_wf _ w1)).mono fun e W' ⟨he, bel⟩ => ?_
  subst he
  exact ⟨_, rfl, _, _, _, [], _, [], hW', trodAll_mk1 (shut_bool Try.underlying4 _), (trodAll_cons_mk (Below.trod laidOut (by kernel_rfl) (of_decide_eq_true (by kernel_rfl)) k0 bel lt0) (trodAll_cons_mk (shut_int Try.underlying5 w1) trodAll_mk0)), rfl, bel.frame _, fun h => by cases h⟩

theorem over : Rows.bwtCountsRow.holds Try.pinned (OpenSpec.ofChange Rows.bwtCountsSpec) :=
  OpenClaim.holds_of_wide 7 Try.f7 rfl rfl rfl rfl rfl rfl rfl ⟨rfl, rfl, rfl, rfl, rfl⟩ rfl rfl rfl rfl rfl (by kernel_rfl) Try.func7 (by kernel_rfl)
    (of_decide_eq_true (by kernel_rfl)) (by unfold Func.isWrapper; first | (rw [if_pos (by decide +kernel)]; kernel_rfl) | (rw [if_neg (by decide +kernel)]; exact ⟨rfl, rfl⟩))
    (fun os started H enc _ => lifted os started H enc)

theorem proved : Rows.BwtCountsSaid := over
end Go.Proofs.Ytojjinjgmijgcaa.bwtCounts
namespace Go.Proofs.Ytojjinjgmijgcaa
theorem bwtCounts_holds : Rows.BwtCountsSaid := bwtCounts.proved
#print axioms bwtCounts_holds
end Go.Proofs.Ytojjinjgmijgcaa
