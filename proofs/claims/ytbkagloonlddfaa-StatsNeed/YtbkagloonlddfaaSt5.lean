/-
  The contract of layer 19's heads.
-/
import Derived.Test.YtbkagloonlddfaaSp5
namespace Go.Proofs.Ytbkagloonlddfaa
open Go.RowKit Num
set_option linter.unusedVariables false
set_option linter.unusedSimpArgs false
set_option maxRecDepth 100000

namespace Lg
/-- What is needed, by the counts alone. -/
def eT (t : List Nat) : Nat := enV fun i => cn t i t.length
theorem enN_cts {t : List Nat} (h : t.length ≤ 65536) : enN (toI (cts t)) = eT t := by
  rw [en_yes (okE_cts h)]
  unfold eT enV
  rw [sm_congr fun i hi => vl_cts t hi, en_congr _ fun i hi => vl_cts t hi]
def scV (t : List Nat) : Nat → Nat
  | 0 => 0
  | c + 1 => scV t c + eT (nx t c (t.length - 1))
theorem scS_scV {t : List Nat} (h : t.length ≤ 8192) : ∀ c, scS t c = scV t c
  | 0 => rfl
  | c + 1 => by rw [scS, scV, scS_scV h c, enN_cts (by have := nx_le t c (t.length - 1); omega)]
theorem scN_in {t : List Nat} (h : t.length ≤ 8192) : scN t = scV t 256 := by
  unfold scN
  rw [if_pos h, scS_scV h]
/-- How many symbols there are. -/
def dT (t : List Nat) : Nat → Nat
  | 0 => 0
  | i + 1 => dT t i + (decide (0 < cn t i t.length)).toNat
theorem ds_cts (t : List Nat) : ∀ i, i ≤ 256 → ds (toI (cts t)) i = dT t i
  | 0, _ => rfl
  | i + 1, h => by
    rw [ds, dT, ds_cts t i (by omega), gi_toI, show gt (cts t) i = cn t i t.length from gt_cp _ _ _ (by omega)]
    congr 2
    simp
theorem dsN_cts (t : List Nat) : dsN (toI (cts t)) = dT t 256 := by
  unfold dsN
  rw [if_pos (by rw [length_toI]; exact length_cp _ _), ds_cts t 256 (Nat.le_refl _)]
end Lg
theorem bd_lit (w : World) (xs : List Nat) (mk : Nat × Nat) : Bd (w.alloc (.cells (yv xs).toArray 5 mk)) (some ⟨w.heap.size, 0, none⟩) xs := by
  intro _
  refine ⟨w.heap.size, 0, rfl, by simp, fun i hi => ?_⟩
  rw [World.cell?_alloc_mark]
  simp [yv_get xs i hi]
def aba : List Nat := [97, 98, 97, 98, 97, 98, 97, 98]
theorem aba_bytes : Bytes aba := by unfold Bytes aba; decide
theorem aba_cts : gt (Lg.cts aba) 97 = 4 := by decide +kernel
theorem aba_en : Lg.enN (toI (Lg.cts aba)) = 8 := by rw [Lg.enN_cts (by decide)]; decide +kernel
theorem aba_ds : Lg.dsN (toI (Lg.cts aba)) = 2 := by rw [Lg.dsN_cts]; decide +kernel
theorem aba_nx (c : Nat) (h1 : c ≠ 97) (h2 : c ≠ 98) : ∀ q, q ≤ 7 → Lg.nx aba c q = []
  | 0, _ => rfl
  | q + 1, h => by
    have hq : gt aba q = 97 ∨ gt aba q = 98 := by
      have : ∀ j : Fin 8, gt aba j.val = 97 ∨ gt aba j.val = 98 := by decide
      exact this ⟨q, by omega⟩
    rw [Lg.nx, if_neg (by omega), aba_nx c h1 h2 q (by omega)]
theorem aba_e97 : Lg.eT (Lg.nx aba 97 7) = 0 := by decide +kernel
theorem aba_e98 : Lg.eT (Lg.nx aba 98 7) = 0 := by decide +kernel
theorem aba_e (c : Nat) : Lg.eT (Lg.nx aba c 7) = 0 := by
  by_cases h1 : c = 97
  · rw [h1]; exact aba_e97
  · by_cases h2 : c = 98
    · rw [h2]; exact aba_e98
    · rw [aba_nx c h1 h2 7 (Nat.le_refl _), ← Lg.enN_cts (by decide)]
      exact Lg.en_none
theorem aba_scV : ∀ n, Lg.scV aba n = 0
  | 0 => rfl
  | n + 1 => by
    rw [Lg.scV, aba_scV n, Nat.zero_add]
    exact aba_e n
theorem aba_sc : Lg.scN aba = 0 := by rw [Lg.scN_in (by decide)]; exact aba_scV 256
theorem lg_8 : lgI 8 = 196608 := by decide +kernel
theorem lg_0 : lgI 0 = 0 := by decide +kernel
theorem lg_3 : lgI 3 = 103872 := by decide +kernel
theorem en_nil : Lg.enN [] = 0 := en_no fun g => by have := g.1; simp at this
set_option maxHeartbeats 4000000 in
theorem heads19_c (w : World) : Calls Try.prog 7 #[] w fun e w' => e = .returned (.bool true) ∧ Below w.heap.size w w' := by
  have kc := fun (w : World) (C : Array Value) (n c : Nat) => Lib.run_convert_bytes_const (P := Try.prog) w 22 5 C n c Try.underlying22 Try.underlying5
  have A1 : Hid (∀ w0 ao, Bd w0 ao aba → Calls Try.prog 8 #[.slice ao 8 8] w0 fun e w' => ∃ co cc, e = .returned (.slice co 256 cc) ∧ Nd w' co (toI (Lg.cts aba)) ∧ 256 ≤ cc ∧ Below w0.heap.size w0 w') := fun w0 ao h => scts_c ao aba 8 w0 h aba_bytes (by decide)
  have L8 : Hid (∀ w0, Calls Try.prog 14 #[.int .i64 8] w0 fun e w' => e = .returned (.int .i64 196608) ∧ Below w0.heap.size w0 w') := fun w0 => by
    have := slog_c 8 (by decide) w0
    rw [lg_8] at this
    exact this
  have L0 : Hid (∀ w0, Calls Try.prog 14 #[.int .i64 0] w0 fun e w' => e = .returned (.int .i64 0) ∧ Below w0.heap.size w0 w') := fun w0 => by
    have := slog_c 0 (by decide) w0
    rw [lg_0] at this
    exact this
  have L3 : Hid (∀ w0, Calls Try.prog 14 #[.int .i64 3] w0 fun e w' => e = .returned (.int .i64 103872) ∧ Below w0.heap.size w0 w') := fun w0 => by
    have := slog_c 3 (by decide) w0
    rw [lg_3] at this
    exact this
  have E1 : Hid (∀ w0 co cc, Nd w0 co (toI (Lg.cts aba)) → Calls Try.prog 10 #[.slice co 256 cc] w0 fun e w' => e = .returned (.int .i64 8) ∧ Below w0.heap.size w0 w') := fun w0 co cc h => by
    have := sent_c co (toI (Lg.cts aba)) cc w0 h
    rw [aba_en, length_toI, show (Lg.cts aba).length = 256 from Lg.length_cp _ _] at this
    exact this
  have D1 : Hid (∀ w0 co cc, Nd w0 co (toI (Lg.cts aba)) → Calls Try.prog 11 #[.slice co 256 cc] w0 fun e w' => e = .returned (.int .i64 2) ∧ Below w0.heap.size w0 w') := fun w0 co cc h => by
    have := sdis_c co (toI (Lg.cts aba)) cc w0 h
    rw [aba_ds, length_toI, show (Lg.cts aba).length = 256 from Lg.length_cp _ _] at this
    exact this
  have S1 : Hid (∀ w0 ao, Bd w0 ao aba → Calls Try.prog 9 #[.slice ao 8 8] w0 fun e w' => e = .returned (.int .i64 0) ∧ Below w0.heap.size w0 w') := fun w0 ao h => by
    have := ssec_c ao aba 8 w0 h aba_bytes
    rw [aba_sc] at this
    exact this
  have E0 : Hid (∀ w0, Calls Try.prog 10 #[.slice none 0 0] w0 fun e w' => e = .returned (.int .i64 0) ∧ Below w0.heap.size w0 w') := fun w0 => by
    have := sent_c none [] 0 w0 (nd0 _ _)
    rw [en_nil] at this
    exact this
  go_enter Try.func7, Try.ntmps7
  go_wp2_with fail
  refine (A1.out _ _ (bd_lit w aba (8, 9))).mono ?_
  rintro e w1 ⟨co, cc, rfl, hN, hcc, hb⟩
  have HN := hide hN
  have HB := hide ((below_alloc w _).trans (hb.mono (by simp)))
  clear hb hN A1
  obtain ⟨b, off, rfl, hb0, hc3⟩ := HN.out (by rw [length_toI, show (Lg.cts aba).length = 256 from Lg.length_cp _ _]; omega)
  have e97 := hc3 97 (by rw [length_toI, show (Lg.cts aba).length = 256 from Lg.length_cp _ _]; omega)
  rw [gi_toI, aba_cts] at e97
  clear hc3
  go_wp2_with fail
  refine (L8.out _).mono ?_
  rintro e w2 ⟨rfl, hb⟩
  replace HN := hide (HN.out.keep hb)
  replace HB := hide (HB.out.trans (hb.mono HB.out.size))
  clear hb
  clear e97
  go_wp2_with fail
  refine (L0.out _).mono ?_
  rintro e w2 ⟨rfl, hb⟩
  replace HN := hide (HN.out.keep hb)
  replace HB := hide (HB.out.trans (hb.mono HB.out.size))
  clear hb
  go_wp2_with fail
  refine (E1.out _ _ _ HN.out).mono ?_
  rintro e w2 ⟨rfl, hb⟩
  replace HN := hide (HN.out.keep hb)
  replace HB := hide (HB.out.trans (hb.mono HB.out.size))
  clear hb
  go_wp2_with fail
  refine (D1.out _ _ _ HN.out).mono ?_
  rintro e w2 ⟨rfl, hb⟩
  replace HN := hide (HN.out.keep hb)
  replace HB := hide (HB.out.trans (hb.mono HB.out.size))
  clear hb
  go_wp2_with fail
  have ba := below_alloc w2 (.cells (yv aba).toArray 5 (8, 9))
  refine (S1.out _ _ (bd_lit w2 aba (8, 9))).mono ?_
  rintro e w3 ⟨rfl, hb⟩
  have hb2 := ba.trans (hb.mono (by simp))
  replace HB := hide (HB.out.trans (hb2.mono HB.out.size))
  clear hb hb2 ba HN
  go_wp2_with fail
  refine (E0.out _).mono ?_
  rintro e w4 ⟨rfl, hb⟩
  replace HB := hide (HB.out.trans (hb.mono HB.out.size))
  clear hb
  go_wp2_with fail
  refine (L3.out _).mono ?_
  rintro e w5 ⟨rfl, hb⟩
  replace HB := hide (HB.out.trans (hb.mono HB.out.size))
  clear hb
  go_wp2
  go_ret
  exact ⟨rfl, HB.out⟩
end Go.Proofs.Ytbkagloonlddfaa
