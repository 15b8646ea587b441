/-
  Plain: sums over all symbols, and over those that stand: costs, and what lengths need.
-/
import Derived.Test.YtbkagloonlddfaaHp
import Derived.Test.YtbkagloonlddfaaHr
namespace Go.Proofs.Ytbkagloonlddfaa.Hv
open Hm Hn Ho Hp Hr

def tot (f : Nat → Nat) : Nat → Nat
  | 0 => 0
  | k + 1 => tot f k + f k
theorem used_succ (cnt : Nat → Nat) (k : Nat) : used cnt (k + 1) = used cnt k ++ (if 0 < cnt k then [k] else []) := by
  unfold used
  rw [List.range_succ, List.filter_append]
  congr 1
  by_cases h : 0 < cnt k
  · rw [if_pos h]
    simp [h]
  · rw [if_neg h]
    simp [h]
theorem sum_used (cnt f : Nat → Nat) (k : Nat) : ((used cnt (k + 1)).map f).sum = ((used cnt k).map f).sum + (if 0 < cnt k then f k else 0) := by
  rw [used_succ, List.map_append, List.sum_append]
  split <;> simp
theorem tot_used (cnt D : Nat → Nat) (k : Nat) : tot (fun c => cnt c * D c) k = ((used cnt k).map fun c => cnt c * D c).sum := by
  induction k with
  | zero => rfl
  | succ k ih =>
    rw [sum_used, tot, ih]
    by_cases h : 0 < cnt k
    · rw [if_pos h]
    · rw [if_neg h, show cnt k = 0 by omega, Nat.zero_mul]
theorem used_need (cnt o : Nat → Nat) (k : Nat) (h : ∀ c ∈ used cnt k, 0 < o c) : ((used cnt k).map fun c => 2 ^ (40 - o c)).sum ≤ need o (fun _ => true) k := by
  induction k with
  | zero => exact Nat.le_refl _
  | succ k ih =>
    have h1 := ih (fun c hc => h c (by rw [used_succ]; exact List.mem_append_left _ hc))
    have tp := Nat.two_pow_pos (40 - o k)
    rw [sum_used]
    unfold need
    by_cases g : 0 < cnt k
    · have := h k (mem_used.2 ⟨by omega, g⟩)
      rw [if_pos g, if_pos ⟨this, rfl⟩]
      omega
    · rw [if_neg g]
      split <;> omega
theorem need_used (cnt D : Nat → Nat) (k : Nat) (h : ∀ c, c < k → (0 < D c ↔ 0 < cnt c)) : need D (fun _ => true) k = ((used cnt k).map fun c => 2 ^ (40 - D c)).sum := by
  induction k with
  | zero => rfl
  | succ k ih =>
    rw [sum_used, need, ih (fun c hc => h c (by omega))]
    congr 1
    by_cases g : 0 < cnt k
    · rw [if_pos g, if_pos ⟨(h k (by omega)).2 g, rfl⟩]
    · rw [if_neg g, if_neg (fun e => g ((h k (by omega)).1 e.1))]
theorem need_fine {cnt D : Nat → Nat} {k : Nat} (F : Fine cnt k D) : need D (fun _ => true) k = 2 ^ 40 := by
  rw [need_used cnt D k, F.sum]
  intro c hc
  constructor
  · intro h
    refine Nat.pos_of_ne_zero fun e => ?_
    have := F.none c (fun g => by have := (mem_used.1 g).2; omega)
    omega
  · intro h
    exact (F.some c (mem_used.2 ⟨hc, h⟩)).1
/-- No lengths that fit cost less: over all symbols. -/
theorem best_all (cnt : Nat → Nat) (k : Nat) (hk : k ≤ 256) (hB : ∀ c, cnt c ≤ 1048576) (o : Nat → Nat) (ho : ∀ c, c < k → 0 < cnt c → 0 < o c) (h40 : ∀ c, c < k → o c ≤ 40) (hs : need o (fun _ => true) k ≤ 2 ^ 40) :
    tot (fun c => cnt c * hlen cnt k c) k ≤ tot (fun c => cnt c * o c) k := by
  have hu : ∀ c ∈ used cnt k, 1 ≤ o c ∧ o c ≤ 40 := fun c hc => by
    have := mem_used.1 hc
    exact ⟨ho c this.1 this.2, h40 c this.1⟩
  rw [tot_used, tot_used]
  exact no_less cnt k hk hB o hu (Nat.le_trans (used_need cnt o k (fun c hc => (hu c hc).1)) hs)
end Go.Proofs.Ytbkagloonlddfaa.Hv
