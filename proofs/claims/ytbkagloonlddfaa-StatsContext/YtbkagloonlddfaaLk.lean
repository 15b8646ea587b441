/-
  Plain: what texts need by the one ahead, against what they need.
-/
import Derived.Test.YtbkagloonlddfaaLj
namespace Go.Proofs.Ytbkagloonlddfaa
set_option linter.unusedVariables false
set_option linter.unusedSimpArgs false
set_option maxRecDepth 10000
namespace Lg
theorem sm_at (f g : Nat → Nat) (x : Nat) : ∀ n, x < n → (∀ i, i < n → i ≠ x → f i = g i) → sm f n + g x = sm g n + f x
  | 0, h, _ => absurd h (by omega)
  | n + 1, h, he => by
    rw [sm, sm]
    by_cases hx : x = n
    · subst hx
      rw [sm_congr fun i hi => he i (by omega) (by omega)]
      omega
    · have := sm_at f g x n (by omega) fun i hi => he i (by omega)
      have := he n (by omega) (by omega)
      omega
theorem eT_nx {t : List Nat} (hb : Bytes t) (c M : Nat) : eT (nx t c M) = (en (fun j => pc t c j M) (cn t c M) 256 + 65535) / 65536 := by
  unfold eT enV
  rw [show (fun i => cn (nx t c M) i (nx t c M).length) = fun j => pc t c j M from funext fun j => cn_nx t c j M, pc_row hb]
theorem en_zero (v : Nat → Nat) (N : Nat) : ∀ n, (∀ i, i < n → v i = 0) → en v N n = 0
  | 0, _ => rfl
  | n + 1, h => by rw [en, en_zero v N n fun i hi => h i (by omega), h n (by omega), Nat.zero_mul]
theorem eT_nx_le {t : List Nat} (hb : Bytes t) (c : Nat) : 65536 * eT (nx t c (t.length - 1)) ≤ en (fun j => pc t c j (t.length - 1)) (cn t c (t.length - 1)) 256 + 65535 * (decide (0 < cn t c t.length)).toNat := by
  rw [eT_nx hb]
  by_cases h : cn t c (t.length - 1) = 0
  · rw [en_zero _ _ _ fun j _ => by have := pc_le_cn t c j (t.length - 1); omega]
    omega
  · have hm : cn t c (t.length - 1) ≤ cn t c t.length := by
      by_cases hl : t.length = 0
      · rw [hl]; exact Nat.le_refl _
      · have := cn_step t c (t.length - 1)
        rw [Nat.sub_add_cancel (by omega)] at this
        omega
    rw [decide_eq_true (show 0 < cn t c t.length by omega)]
    show _ ≤ _ + 65535 * 1
    omega
theorem scV_le {t : List Nat} (hb : Bytes t) : ∀ c, 65536 * scV t c ≤ sm (fun c => en (fun j => pc t c j (t.length - 1)) (cn t c (t.length - 1)) 256) c + 65535 * dT t c
  | 0 => by rw [scV]; omega
  | c + 1 => by
    have := scV_le hb c
    have := eT_nx_le hb c
    rw [scV, sm, dT]
    omega
theorem sS_le {t : List Nat} (hb : Bytes t) (h : t.length ≤ 1073741824) : sS t (t.length - 1) ≤ en (fun i => cn t i t.length) t.length 256 + 8 * t.length := by
  by_cases h1 : t.length ≤ 1
  · have : sS t (t.length - 1) = 0 := by
      unfold sS
      rw [show t.length - 1 = 0 by omega]
      refine Eq.trans (sm_congr (u := fun _ => 0) fun c _ => ?_) (sm_zero 256)
      exact en_zero _ _ _ fun j _ => rfl
    omega
  obtain ⟨M, hM⟩ : ∃ M, t.length = M + 1 := ⟨t.length - 1, by omega⟩
  rw [hM, Nat.add_sub_cancel]
  have a1 := by_one hb (M := M) (by omega) (by omega)
  have a2 := en_eq (fun i => cn t i (M + 1)) (M + 1) (fun i hi => lg_le hi (cn_le t i (M + 1))) 256
  rw [cn_all hb] at a2
  have a3 := sm_at (fun j => cn t j (M + 1) * lg (cn t j (M + 1))) (fun j => kc t j M * lg (kc t j M)) (gt t 0) 256 (gt_lt hb _) fun i _ hi => by
    show cn t i (M + 1) * lg (cn t i (M + 1)) = _
    rw [kc_cn, decide_eq_false (fun h => hi h.symm)]
    rfl
  rw [show cn t (gt t 0) (M + 1) = kc t (gt t 0) M + 1 by rw [kc_cn, decide_eq_true rfl]; rfl] at a3
  have a4 := grow_lg (kc t (gt t 0) M) M (kc_le _ _ _) (by omega)
  have a5 := kc_le t (gt t 0) M
  generalize (kc t (gt t 0) M + 1) * lg (kc t (gt t 0) M + 1) = A at *
  generalize kc t (gt t 0) M * lg (kc t (gt t 0) M) = B at *
  generalize (M + 1) * lg (M + 1) = C at *
  generalize M * lg M = D at *
  generalize sm (fun j => kc t j M * lg (kc t j M)) 256 = F at *
  generalize sm (fun i => cn t i (M + 1) * lg (cn t i (M + 1))) 256 = G at *
  omega
theorem context {t : List Nat} (hb : Bytes t) (h : t.length ≤ 8000) : scV t 256 ≤ eT t + dT t 256 := by
  have h1 := scV_le hb 256
  have h2 := sS_le hb (by omega)
  unfold sS at h2
  have h3 : en (fun i => cn t i t.length) t.length 256 ≤ 65536 * eT t := by
    unfold eT enV
    rw [cn_all hb]
    omega
  generalize sm (fun c => en (fun j => pc t c j (t.length - 1)) (cn t c (t.length - 1)) 256) 256 = A at *
  generalize en (fun i => cn t i t.length) t.length 256 = B at *
  omega
end Lg
end Go.Proofs.Ytbkagloonlddfaa
