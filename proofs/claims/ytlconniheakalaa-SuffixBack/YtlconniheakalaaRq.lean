/-
  The contract of layer 17's heads.
-/
import Derived.Test.YtlconniheakalaaRp
namespace Go.Proofs.Ytlconniheakalaa
open Go.RowKit
set_option linter.unusedVariables false
set_option linter.unusedSimpArgs false
set_option maxRecDepth 100000

theorem bd_lit (w : World) (xs : List Nat) (mk : Nat × Nat) : Bd (w.alloc (.cells (yv xs).toArray 5 mk)) (some ⟨w.heap.size, 0, none⟩) xs := by
  intro _
  refine ⟨w.heap.size, 0, rfl, by simp, fun i hi => ?_⟩
  rw [World.cell?_alloc_mark]
  simp [yv_get xs i hi]
theorem nd_lit (w : World) (xs : List Nat) : Nd (w.alloc (.cells (iv xs).toArray 3)) (some ⟨w.heap.size, 0, none⟩) (toI xs) := nd_cel (Cel.new w (iv xs) 3)
def ban : List Nat := [98, 97, 110, 97, 110, 97]
theorem ban_sa : Su.arrL ban = [6, 5, 3, 1, 0, 4, 2] ∧ Su.arrE ban = 0 := by
  have h : Su.Ord ban [6, 5, 3, 1, 0, 4, 2] := ⟨by unfold Su.So; decide +kernel, by decide +kernel⟩
  obtain ⟨a, b⟩ := Su.arr_in (t := ban) (by decide)
  exact ⟨by rw [a]; exact h.eq.symm, b⟩
theorem ban_inv : Su.invL (toI [6, 5, 3, 1, 0, 4, 2]) = [4, 3, 6, 2, 5, 1, 0] ∧ Su.invE (toI [6, 5, 3, 1, 0, 4, 2]) = 0 := by
  have h : Su.Gd (toI [6, 5, 3, 1, 0, 4, 2]) (toI [6, 5, 3, 1, 0, 4, 2]).length := Su.pm_gd (fun i _ => by rw [gi_toI]; omega) (by unfold Su.Pm; decide +kernel)
  obtain ⟨a, b⟩ := Su.inv_yes h
  exact ⟨by rw [b]; decide +kernel, a⟩
theorem two_inv : Su.invL (toI [0, 0]) = [] ∧ Su.invE (toI [0, 0]) = 2 := by
  obtain ⟨a, b⟩ := Su.inv_no (l := toI [0, 0]) (q := 2) (Nat.le_refl _) fun h => h.2 0 1 (by decide) (by decide) rfl
  exact ⟨b, a⟩
theorem ban_chk : Su.chk ban (toI [6, 5, 3, 1, 0, 4, 2]) = true ∧ Su.chk [] (toI [6, 5, 3, 1, 0, 4, 2]) = false := by
  have e : Su.sa ban = [6, 5, 3, 1, 0, 4, 2] := by rw [← (Su.arr_in (t := ban) (by decide)).1]; exact ban_sa.1
  refine ⟨?_, ?_⟩
  · unfold Su.chk
    rw [e]
    decide +kernel
  · unfold Su.chk
    rw [decide_eq_false (p := toI (Su.sa []) = _) fun h => ?_]
    · rfl
    · have := congrArg List.length h
      rw [length_toI, Su.length_sa] at this
      simp [toI] at this
theorem ba_less : lessE [98, 97] 1 0 = true := by decide +kernel
theorem bytes_zero (n : Nat) : Bytes (List.replicate n 0) := fun x hx => by rw [(List.mem_replicate.1 hx).2]; decide
theorem ban_bytes : Bytes ban := by unfold Bytes ban; decide
set_option maxHeartbeats 4000000 in
theorem heads17_c (w : World) : Calls Try.prog 8 #[] w fun e w' => e = .returned (.bool true) ∧ Below w.heap.size w w' := by
  have kc := fun (w : World) (C : Array Value) (n c : Nat) => Lib.run_convert_bytes_const (P := Try.prog) w 22 5 C n c Try.underlying22 Try.underlying5
  have A1 : Hid (∀ w0 ao, Bd w0 ao ban → Calls Try.prog 9 #[.slice ao 6 6] w0 fun e w' => ∃ bo dap, e = .returned (.tuple #[.slice bo 7 dap, .int .i64 0]) ∧ Nd w' bo (toI [6, 5, 3, 1, 0, 4, 2]) ∧ Below w0.heap.size w0 w') := fun w0 ao h => (sarr_c ao ban 6 w0 h ban_bytes (by decide)).mono fun e w' H => by
    unfold ArrQ at H
    rw [ban_sa.1, ban_sa.2] at H
    obtain ⟨bo, dap, a, b, c, d⟩ := H
    exact ⟨bo, dap, a, b, d⟩
  have I1 : Hid (∀ w0 ao cap, Nd w0 ao (toI [6, 5, 3, 1, 0, 4, 2]) → Calls Try.prog 11 #[.slice ao 7 cap] w0 fun e w' => ∃ bo dap, e = .returned (.tuple #[.slice bo 7 dap, .int .i64 0]) ∧ Nd w' bo (toI [4, 3, 6, 2, 5, 1, 0]) ∧ Below w0.heap.size w0 w') := fun w0 ao cap h => (sinv_c ao _ cap w0 h (by decide)).mono fun e w' H => by
    rw [ban_inv.1, ban_inv.2] at H
    obtain ⟨bo, dap, a, b, c, d⟩ := H
    exact ⟨bo, dap, a, b, d⟩
  have I2 : Hid (∀ w0 ao, Nd w0 ao (toI [0, 0]) → Calls Try.prog 11 #[.slice ao 2 2] w0 fun e w' => ∃ bo dap, e = .returned (.tuple #[.slice bo 0 dap, .int .i64 2]) ∧ Below w0.heap.size w0 w') := fun w0 ao h => (sinv_c ao (toI [0, 0]) 2 w0 h (by decide)).mono fun e w' H => by
    rw [two_inv.1, two_inv.2] at H
    obtain ⟨bo, dap, a, b, c, d⟩ := H
    exact ⟨bo, dap, a, d⟩
  have A2 : Hid (∀ w0 ao, Bd w0 ao (List.replicate 8193 0) → Calls Try.prog 9 #[.slice ao 8193 8193] w0 fun e w' => ∃ bo dap, e = .returned (.tuple #[.slice bo 0 dap, .int .i64 4]) ∧ Below w0.heap.size w0 w') := fun w0 ao h => by
    have C := sarr_c ao (List.replicate 8193 0) 8193 w0 h (bytes_zero _) (by rw [List.length_replicate]; exact Nat.le_refl _)
    have R := Su.arr_out (t := List.replicate 8193 0) (by rw [List.length_replicate]; omega)
    unfold ArrQ at C
    rw [R.1, R.2, List.length_replicate] at C
    exact C.mono fun e w' ⟨bo, dap, a, b, c, d⟩ => ⟨bo, dap, a, d⟩
  have N1 : Hid (∀ w0 ao bo cap, Nd w0 ao (toI [6, 5, 3, 1, 0, 4, 2]) → Nd w0 bo (toI [6, 5, 3, 1, 0, 4, 2]) → Calls Try.prog 13 #[.slice ao 7 cap, .slice bo 7 7] w0 fun e w' => e = .returned (.bool true) ∧ Below w0.heap.size w0 w') := fun w0 ao bo cap h k => rnum_c ao (toI [6, 5, 3, 1, 0, 4, 2]) cap bo (toI [6, 5, 3, 1, 0, 4, 2]) 7 w0 h k (by decide)
  have N2 : Hid (∀ w0 ao bo cap, Nd w0 ao (toI [4, 3, 6, 2, 5, 1, 0]) → Nd w0 bo (toI [4, 3, 6, 2, 5, 1, 0]) → Calls Try.prog 13 #[.slice ao 7 cap, .slice bo 7 7] w0 fun e w' => e = .returned (.bool true) ∧ Below w0.heap.size w0 w') := fun w0 ao bo cap h k => rnum_c ao (toI [4, 3, 6, 2, 5, 1, 0]) cap bo (toI [4, 3, 6, 2, 5, 1, 0]) 7 w0 h k (by decide)
  have K1 : Hid (∀ w0 ao bo cap, Bd w0 ao ban → Nd w0 bo (toI [6, 5, 3, 1, 0, 4, 2]) → Calls Try.prog 16 #[.slice ao 6 6, .slice bo 7 cap] w0 fun e w' => e = .returned (.bool true) ∧ Below w0.heap.size w0 w') := fun w0 ao bo cap h k => by
    have := schk_c ao ban 6 bo (toI [6, 5, 3, 1, 0, 4, 2]) cap w0 h ban_bytes (by decide) k
    rw [ban_chk.1] at this
    exact this
  have K2 : Hid (∀ w0 bo cap, Nd w0 bo (toI [6, 5, 3, 1, 0, 4, 2]) → Calls Try.prog 16 #[.slice none 0 0, .slice bo 7 cap] w0 fun e w' => e = .returned (.bool false) ∧ Below w0.heap.size w0 w') := fun w0 bo cap k => by
    have := schk_c none [] 0 bo (toI [6, 5, 3, 1, 0, 4, 2]) cap w0 (bd0 _ _) (fun x hx => by cases hx) (by decide) k
    rw [ban_chk.2] at this
    exact this
  have L1 : Hid (∀ w0 ao, Bd w0 ao [98, 97] → Calls Try.prog 14 #[.slice ao 2 2, .int .i64 1, .int .i64 0] w0 fun e w' => e = .returned (.bool true) ∧ Below w0.heap.size w0 w') := fun w0 ao h => by
    have := sless_c ao [98, 97] 2 1 0 w0 h (by unfold Bytes; decide) (by decide) (by decide)
    rw [ba_less] at this
    exact this
  go_enter Try.func8, Try.ntmps8
  go_wp2_with fail
  refine (A1.out _ _ (bd_lit w ban (6, 7))).mono ?_
  rintro e w1 ⟨l1, c1, rfl, N, hb⟩
  have HN := hide N
  have HB := hide ((below_alloc w _).trans (hb.mono (by simp)))
  clear hb N A1
  go_wp2_with fail
  refine (I1.out _ _ _ HN.out).mono ?_
  rintro e w2 ⟨l2, c2, rfl, M, hb⟩
  have HM := hide M
  replace HN := hide (HN.out.keep hb)
  replace HB := hide (HB.out.trans (hb.mono HB.out.size))
  clear hb M I1
  obtain ⟨i0, hi, hz0, hz1, hz2⟩ := info_parts Try.info5
  go_wp2_with fail
  refine (I2.out _ _ (nd_lit w2 [0, 0])).mono ?_
  rintro e w3 ⟨l3, c3, rfl, hb⟩
  have hb2 := (below_alloc w2 (.cells (iv [0, 0]).toArray 3)).trans (hb.mono (by simp))
  replace HN := hide (HN.out.keep hb2)
  replace HM := hide (HM.out.keep hb2)
  replace HB := hide (HB.out.trans (hb2.mono HB.out.size))
  clear hb hb2 I2
  go_wp2_with (at_make; refine wpList_make_full _ rfl _ _ 22 rfl w3.heap.size 5 i0 (.int .u8 0) 1 Try.underlying22 hi hz0 hz1 .i64 .i64 _ _ 8193 rfl rfl rfl rfl ?b2 ?b3 ?b4 ?_)
  case b2 => rw [hz2]; omega
  case b3 => unfold maxLen; omega
  case b4 => simp
  intro w4 hown hgr
  have B1 := cel_made hown
  have hb : Below w3.heap.size w3 w4 := (Below.refl _ _).grown hgr (Nat.le_refl _) (fun k h => by cases h)
  have HZ : Hid (Bd w4 (some ⟨w3.heap.size, 0, none⟩) (List.replicate 8193 0)) := fun _ => ⟨w3.heap.size, 0, rfl, B1.lt, fun i hi => by
    rw [List.length_replicate] at hi
    rw [Nat.zero_add]
    have e : gt (List.replicate 8193 0) i = 0 := by
      unfold gt
      rw [List.getD_eq_getElem?_getD, List.getElem?_replicate, if_pos hi]
      rfl
    rw [e]
    exact B1.cell i (by rw [List.getElem?_replicate, if_pos hi]; rfl)⟩
  replace HN := hide (HN.out.keep hb)
  replace HM := hide (HM.out.keep hb)
  replace HB := hide (HB.out.trans (hb.mono HB.out.size))
  clear hb hgr hown B1 hi hz0 hz1 hz2
  generalize w3.heap.size = g3 at *
  go_wp2_with fail
  refine (A2.out _ _ HZ.out).mono ?_
  rintro e w5 ⟨l5, c5, rfl, hb⟩
  replace HN := hide (HN.out.keep hb)
  replace HM := hide (HM.out.keep hb)
  replace HB := hide (HB.out.trans (hb.mono HB.out.size))
  clear hb HZ A2
  go_wp2_with fail
  have ba := below_alloc w5 (.cells (iv [6, 5, 3, 1, 0, 4, 2]).toArray 3)
  refine (N1.out _ _ _ _ (HN.out.keep ba) (nd_lit w5 [6, 5, 3, 1, 0, 4, 2])).mono ?_
  rintro e w6 ⟨rfl, hb⟩
  have hb2 := ba.trans (hb.mono (by simp))
  replace HN := hide (HN.out.keep hb2)
  replace HM := hide (HM.out.keep hb2)
  replace HB := hide (HB.out.trans (hb2.mono HB.out.size))
  clear hb hb2 ba N1
  go_wp2_with fail
  have ba := below_alloc w6 (.cells (iv [4, 3, 6, 2, 5, 1, 0]).toArray 3)
  refine (N2.out _ _ _ _ (HM.out.keep ba) (nd_lit w6 [4, 3, 6, 2, 5, 1, 0])).mono ?_
  rintro e w7 ⟨rfl, hb⟩
  have hb2 := ba.trans (hb.mono (by simp))
  replace HN := hide (HN.out.keep hb2)
  replace HB := hide (HB.out.trans (hb2.mono HB.out.size))
  clear hb hb2 ba N2 HM
  go_wp2_with fail
  have ba := below_alloc w7 (.cells (yv ban).toArray 5 (6, 7))
  refine (K1.out _ _ _ _ (bd_lit w7 ban (6, 7)) (HN.out.keep ba)).mono ?_
  rintro e w8 ⟨rfl, hb⟩
  have hb2 := ba.trans (hb.mono (by simp))
  replace HN := hide (HN.out.keep hb2)
  replace HB := hide (HB.out.trans (hb2.mono HB.out.size))
  clear hb hb2 ba K1
  go_wp2_with fail
  refine (K2.out _ _ _ HN.out).mono ?_
  rintro e w9 ⟨rfl, hb⟩
  replace HB := hide (HB.out.trans (hb.mono HB.out.size))
  clear hb K2 HN
  go_wp2_with fail
  have ba := below_alloc w9 (.cells (yv [98, 97]).toArray 5 (2, 3))
  refine (L1.out _ _ (bd_lit w9 [98, 97] (2, 3))).mono ?_
  rintro e w10 ⟨rfl, hb⟩
  have hb2 := ba.trans (hb.mono (by simp))
  replace HB := hide (HB.out.trans (hb2.mono HB.out.size))
  clear hb hb2 ba L1
  go_wp2
  go_ret
  exact ⟨rfl, HB.out⟩
end Go.Proofs.Ytlconniheakalaa
