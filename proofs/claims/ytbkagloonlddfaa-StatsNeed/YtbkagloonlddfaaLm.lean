/-
  Plain: codes of least cost need at least the entropy, and less than a bit more a symbol.
-/
import Derived.Test.YtbkagloonlddfaaLk
import Derived.Test.YtbkagloonlddfaaHv
namespace Go.Proofs.Ytbkagloonlddfaa
set_option linter.unusedVariables false
set_option linter.unusedSimpArgs false
set_option maxRecDepth 10000
namespace Lg
open Hp
theorem used_sm (v f : Nat → Nat) (h : ∀ c, v c = 0 → f c = 0) : ∀ k, sum ((used v k).map f) = sm f k
  | 0 => rfl
  | k + 1 => by
    rw [Hv.used_succ, List.map_append, sum_app, used_sm v f h k, sm]
    by_cases g : 0 < v k
    · rw [if_pos g]; simp [sum]
    · rw [if_neg g, h k (by omega)]; rfl
theorem used_len (v : Nat → Nat) : ∀ k, (used v k).length = sm (fun i => (decide (0 < v i)).toNat) k
  | 0 => rfl
  | k + 1 => by
    rw [Hv.used_succ, List.length_append, used_len v k, sm]
    by_cases g : 0 < v k
    · rw [if_pos g, decide_eq_true g]; rfl
    · rw [if_neg g, decide_eq_false g]; rfl
theorem tot_sm (f : Nat → Nat) : ∀ k, Hv.tot f k = sm f k
  | 0 => rfl
  | k + 1 => by rw [Hv.tot, sm, tot_sm f k]
theorem sum_sum : ∀ l : List Nat, sum l = l.sum
  | [] => rfl
  | a :: l => by rw [sum, List.sum_cons, sum_sum l]
theorem two_le (v : Nat → Nat) {i j : Nat} (hij : i ≠ j) : ∀ n, i < n → j < n → v i + v j ≤ sm v n
  | 0, h, _ => absurd h (by omega)
  | n + 1, hi, hj => by
    rw [sm]
    by_cases a : i = n
    · have := sm_mono v (show j + 1 ≤ n by omega)
      rw [sm] at this
      subst a
      omega
    · by_cases b : j = n
      · have := sm_mono v (show i + 1 ≤ n by omega)
        rw [sm] at this
        subst b
        omega
      · have := two_le v hij n (by omega) (by omega)
        omega
theorem part_lt {v : Nat → Nat} (h2 : 2 ≤ (used v 256).length) (hz : ∀ i, 256 ≤ i → v i = 0) (c : Nat) : v c < sm v 256 := by
  by_cases hc : c < 256
  · by_cases hlt : v c < sm v 256
    · exact hlt
    · exfalso
      rw [used_len] at h2
      have h3 : ∀ i, i < 256 → i ≠ c → v i = 0 := fun i hi hic => by
        have := two_le v hic 256 hi hc
        omega
      have h4 : sm (fun i => (decide (0 < v i)).toNat) 256 ≤ sm (fun i => (decide (c = i)).toNat) 256 := sm_le fun i hi => by
        by_cases e : c = i
        · rw [decide_eq_true e]; exact Bool.toNat_le _
        · rw [decide_eq_false (show ¬ 0 < v i by rw [h3 i hi (Ne.symm e)]; omega)]; exact Nat.zero_le _
      rw [sm_one, decide_eq_true hc] at h4
      have : (true).toNat = 1 := rfl
      omega
  · rw [hz c (by omega)]
    rw [used_len] at h2
    by_cases h0 : sm v 256 = 0
    · exfalso
      have : sm (fun i => (decide (0 < v i)).toNat) 256 = 0 := by
        refine Eq.trans (sm_congr (u := fun _ => 0) fun i hi => ?_) (sm_zero 256)
        have := sm_mono v (show i + 1 ≤ 256 by omega)
        rw [sm] at this
        rw [decide_eq_false (by omega)]
        rfl
      omega
    · omega
/-- At least the entropy, but for its rounding. -/
theorem at_least {v : Nat → Nat} (h2 : 2 ≤ (used v 256).length) (hz : ∀ i, 256 ≤ i → v i = 0) (hN : sm v 256 ≤ 32000) : enV v ≤ sm (fun c => v c * hlen v 256 c) 256 + 1 := by
  have hlt := part_lt h2 hz
  have F := fine v 256 (Nat.le_refl _) (fun c => by have := hlt c; omega) h2
  have e1 : sum ((used v 256).map fun c => v c) = sm v 256 := used_sm v _ (fun c h => h) 256
  have n := need ((used v 256).map fun c => (v c, hlen v 256 c)) (sm v 256) (by unfold fst; rw [List.map_map]; exact e1.symm) (by omega) (fun p hp => by
    obtain ⟨c, hc, rfl⟩ := List.mem_map.1 hp
    have := (mem_used.1 hc).2
    show v c ≠ 0
    omega) (fun p hp => by
    obtain ⟨c, hc, rfl⟩ := List.mem_map.1 hp
    exact (F.some c hc).2) (by
    rw [List.map_map, sum_sum]
    exact Nat.le_of_eq F.sum)
  rw [List.map_map, List.map_map] at n
  have e2 : sum ((used v 256).map ((fun p : Nat × Nat => p.1 * p.2) ∘ fun c => (v c, hlen v 256 c))) = sm (fun c => v c * hlen v 256 c) 256 := used_sm v (fun c => v c * hlen v 256 c) (fun c h => by show v c * _ = 0; rw [h, Nat.zero_mul]) 256
  have e3 : sum ((used v 256).map ((fun p : Nat × Nat => p.1 * lg p.1) ∘ fun c => (v c, hlen v 256 c))) = sm (fun c => v c * lg (v c)) 256 := used_sm v (fun c => v c * lg (v c)) (fun c h => by show v c * _ = 0; rw [h, Nat.zero_mul]) 256
  rw [e2, e3] at n
  have q := en_eq v (sm v 256) (fun i hi => lg_le hi (by have := hlt i; omega)) 256
  unfold enV
  generalize sm v 256 * lg (sm v 256) = A at *
  omega
/-- Less than a bit more a symbol. -/
theorem at_most {v : Nat → Nat} (h2 : 2 ≤ (used v 256).length) (hz : ∀ i, 256 ≤ i → v i = 0) (hN : sm v 256 ≤ 32000) : sm (fun c => v c * hlen v 256 c) 256 ≤ enV v + sm v 256 := by
  have hlt := part_lt h2 hz
  have ex : ∀ c, ∃ k, (v c = 0 → k = 0) ∧ (v c ≠ 0 → 0 < k ∧ k ≤ 30 ∧ sm v 256 ≤ v c * 2 ^ k ∧ 65536 * k ≤ lg (sm v 256) - lg (v c) + 65536) := fun c => by
    by_cases h0 : v c = 0
    · exact ⟨0, fun _ => rfl, fun h => absurd h0 h⟩
    · obtain ⟨k, a, b, d⟩ := shan h0 (Nat.le_of_lt (hlt c)) (by omega)
      refine ⟨k, fun h => absurd h h0, fun _ => ⟨Nat.pos_of_ne_zero fun e => ?_, a, b, d⟩⟩
      rw [e, Nat.pow_zero, Nat.mul_one] at b
      have := hlt c
      omega
  obtain ⟨o, ho⟩ := Classical.axiomOfChoice ex
  have hpos : 0 < sm v 256 := by have := hlt 0; omega
  have hn : ∀ k, sm v 256 * Hr.need o (fun _ => true) k ≤ sm v k * 2 ^ 40 := fun k => by
    induction k with
    | zero => exact Nat.zero_le _
    | succ k ih =>
      rw [Hr.need, show sm v (k + 1) = sm v k + v k from rfl, Nat.mul_add, Nat.add_mul]
      refine Nat.add_le_add ih ?_
      by_cases h0 : v k = 0
      · rw [if_neg (by rw [(ho k).1 h0]; omega)]
        exact Nat.zero_le _
      · obtain ⟨a, b, d, e⟩ := (ho k).2 h0
        rw [if_pos ⟨a, rfl⟩]
        have := Nat.mul_le_mul_right (2 ^ (40 - o k)) d
        rwa [Nat.mul_assoc (v k), ← Nat.pow_add, show o k + (40 - o k) = 40 by omega] at this
  have hn2 : Hr.need o (fun _ => true) 256 ≤ 2 ^ 40 := Nat.le_of_mul_le_mul_left (hn 256) hpos
  have b := Hv.best_all v 256 (Nat.le_refl _) (fun c => by have := hlt c; omega) o (fun c _ h => ((ho c).2 (by omega)).1) (fun c _ => by
    by_cases h0 : v c = 0
    · rw [(ho c).1 h0]; omega
    · have := ((ho c).2 h0).2.1; omega) hn2
  rw [tot_sm, tot_sm] at b
  have hc : ∀ k, 65536 * sm (fun c => v c * o c) k ≤ en v (sm v 256) k + 65536 * sm v k := fun k => by
    induction k with
    | zero => exact Nat.le_refl _
    | succ k ih =>
      rw [show sm (fun c => v c * o c) (k + 1) = sm (fun c => v c * o c) k + v k * o k from rfl, show sm v (k + 1) = sm v k + v k from rfl, en]
      have : 65536 * (v k * o k) ≤ v k * (lg (sm v 256) - lg (v k)) + 65536 * v k := by
        by_cases h0 : v k = 0
        · rw [h0, Nat.zero_mul]; omega
        · have := Nat.mul_le_mul_left (v k) ((ho k).2 h0).2.2.2
          rw [Nat.mul_add, Nat.mul_comm (v k) 65536] at this
          rwa [Nat.mul_left_comm]
      omega
  have h3 := hc 256
  unfold enV
  omega
theorem en_or (v : Nat → Nat) (N : Nat) : ∀ n, (∀ i, i < n → v i = 0 ∨ N = v i) → en v N n = 0
  | 0, _ => rfl
  | n + 1, h => by
    rw [en, en_or v N n fun i hi => h i (by omega)]
    rcases h n (by omega) with e | e
    · rw [e, Nat.zero_mul]
    · rw [e, Nat.sub_self, Nat.mul_zero]
theorem en_one {v : Nat → Nat} (h : ∀ i j, i < 256 → j < 256 → v i ≠ 0 → v j ≠ 0 → i = j) : en v (sm v 256) 256 = 0 := by
  refine en_or _ _ _ fun i hi => ?_
  by_cases h0 : v i = 0
  · exact .inl h0
  · right
    have := sm_at v (fun _ => 0) i 256 hi fun j hj hji => by
      by_cases g : v j = 0
      · exact g
      · exact absurd (h j i hj hi g h0) hji
    rw [sm_zero] at this
    omega
theorem dT_sm (t : List Nat) : ∀ k, dT t k = sm (fun i => (decide (0 < cn t i t.length)).toNat) k
  | 0 => rfl
  | k + 1 => by rw [dT, sm, dT_sm t k]
theorem lone {t : List Nat} (h : dT t 256 ≤ 1) (i j : Nat) (hi : i < 256) (hj : j < 256) (a : cn t i t.length ≠ 0) (b : cn t j t.length ≠ 0) : i = j := by
  by_cases e : i = j
  · exact e
  · exfalso
    rw [dT_sm] at h
    have := two_le (fun i => (decide (0 < cn t i t.length)).toNat) e 256 hi hj
    rw [decide_eq_true (show 0 < cn t i t.length by omega), decide_eq_true (show 0 < cn t j t.length by omega)] at this
    have : (true).toNat = 1 := rfl
    omega
theorem lone_e {t : List Nat} (h : dT t 256 ≤ 1) : eT t = 0 := by
  unfold eT enV
  rw [en_one (lone h)]
theorem lone_s {t : List Nat} (hb : Bytes t) (h : dT t 256 ≤ 1) : ∀ c, scV t c = 0
  | 0 => rfl
  | c + 1 => by
    rw [scV, lone_s hb h c, eT_nx hb, ← pc_row hb, en_one]
    intro i j hi hj a b
    have stand : ∀ i, pc t c i (t.length - 1) ≠ 0 → cn t i t.length ≠ 0 := fun i a => by
      have k1 := pc_le_kc t c i (t.length - 1)
      by_cases hl : t.length = 0
      · rw [hl] at a
        exact absurd rfl a
      · have := kc_cn t i (t.length - 1)
        rw [Nat.sub_add_cancel (by omega)] at this
        omega
    exact lone h i j hi hj (stand i a) (stand j b)
end Lg
end Go.Proofs.Ytbkagloonlddfaa
