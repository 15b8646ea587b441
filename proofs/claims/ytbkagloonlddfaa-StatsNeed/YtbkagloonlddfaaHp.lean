/-
  Plain: the lengths of counts: which are none, none beyond 40, that they fit, that no others cost less, and their order.
-/
import Derived.Test.YtbkagloonlddfaaHo
namespace Go.Proofs.Ytbkagloonlddfaa.Hp
open Hm Hn Ho

def used (cnt : Nat → Nat) (k : Nat) : List Nat := (List.range k).filter fun c => decide (0 < cnt c)
theorem mem_used {cnt : Nat → Nat} {k c : Nat} : c ∈ used cnt k ↔ c < k ∧ 0 < cnt c := by
  unfold used
  rw [List.mem_filter, List.mem_range, decide_eq_true_eq]
theorem used_nodup (cnt : Nat → Nat) (k : Nat) : (used cnt k).Nodup := List.nodup_range.filter _
def one (cnt : Nat → Nat) (c : Nat) : Tg := ⟨c, cnt c, [c]⟩
def things (cnt : Nat → Nat) (k : Nat) : List Tg := (used cnt k).map (one cnt)
theorem things_sy (cnt : Nat → Nat) (k : Nat) : (things cnt k).flatMap Tg.sy = used cnt k := by
  unfold things
  rw [List.flatMap_map]
  show (used cnt k).flatMap (fun c => [c]) = _
  induction used cnt k with
  | nil => rfl
  | cons c l ih => rw [List.flatMap_cons, ih]; rfl
theorem inv0 (cnt : Nat → Nat) (k : Nat) : Inv cnt (fun _ => 0) (things cnt k) := by
  have hx : ∀ x ∈ things cnt k, ∃ c, 0 < cnt c ∧ x = one cnt c := fun x hx => by
    obtain ⟨c, hc, rfl⟩ := List.mem_map.1 hx
    exact ⟨c, (mem_used.1 hc).2, rfl⟩
  refine ⟨by rw [things_sy]; exact used_nodup cnt k, ?_, ?_, ?_, ?_⟩
  · intro x h
    obtain ⟨c, _, rfl⟩ := hx x h
    simp [one]
  · intro x h c _
    obtain ⟨e, he, rfl⟩ := hx x h
    show fib 2 ≤ cnt e
    exact he
  · refine List.pairwise_of_forall_mem_list ?_
    intro x h y g
    obtain ⟨e, he, rfl⟩ := hx x h
    obtain ⟨e2, he2, rfl⟩ := hx y g
    exact ⟨fun c _ => he2, fun c _ => he⟩
  · intro x h
    obtain ⟨c, _, rfl⟩ := hx x h
    simp [one]
/-- The lengths. -/
def hlen (cnt : Nat → Nat) (k : Nat) (c : Nat) : Nat :=
  if (used cnt k).length = 1 then (if c ∈ used cnt k then 1 else 0) else run k k (things cnt k) (fun _ => 0) c
theorem wts_things (cnt : Nat → Nat) (k : Nat) : wts (things cnt k) = (used cnt k).map cnt := by
  unfold wts things
  rw [List.map_map]
  rfl
theorem used_len (cnt : Nat → Nat) (k : Nat) : (used cnt k).length ≤ k := by
  have := List.length_filter_le (fun c => decide (0 < cnt c)) (List.range k)
  rw [List.length_range] at this
  exact this
theorem sum_le (cnt : Nat → Nat) (B : Nat) (l : List Nat) (h : ∀ c ∈ l, cnt c ≤ B) : (l.map cnt).sum ≤ l.length * B := by
  induction l with
  | nil => simp
  | cons c l ih =>
    have h1 := h c List.mem_cons_self
    have h2 := ih (fun x hx => h x (List.mem_cons_of_mem _ hx))
    simp only [List.map_cons, List.sum_cons, List.length_cons, Nat.add_mul]
    omega
theorem run_out (f : Nat) : ∀ (n : Nat) (l : List Tg) (d : Nat → Nat) (c : Nat), (∀ x ∈ l, c ∉ x.sy) → run f n l d c = d c := by
  induction f with
  | zero => intro n l d c _; rfl
  | succ f ih =>
    intro n l d c h
    unfold run
    by_cases e : l.length ≤ 1
    · rw [if_pos e]
    · rw [if_neg e]
      obtain ⟨p, _, _⟩ := parts (l := l) (by omega)
      have hf := h _ (p.subset List.mem_cons_self)
      have hs := h _ (p.subset (List.mem_cons_of_mem _ List.mem_cons_self))
      have hab : c ∉ (fstT l).sy ++ (sndT l).sy := fun hc => (List.mem_append.1 hc).elim hf hs
      rw [ih]
      · exact bump_out hab
      · intro x hx
        unfold next at hx
        rcases List.mem_append.1 hx with hx | hx
        · exact h x (p.subset (List.mem_cons_of_mem _ (List.mem_cons_of_mem _ hx)))
        · obtain rfl := List.mem_singleton.1 hx
          exact hab
theorem le_sum {f : Nat → Nat} {y : Nat} {m : List Nat} (h : y ∈ m) : f y ≤ (m.map f).sum := by
  induction m with
  | nil => cases h
  | cons x m ih =>
    simp only [List.map_cons, List.sum_cons]
    rcases List.mem_cons.1 h with rfl | h
    · omega
    · have := ih h; omega
theorem sum_pos2 {f : Nat → Nat} {l : List Nat} {c e : Nat} (hc : c ∈ l) (he : e ∈ l) (hne : c ≠ e) : f c + f e ≤ (l.map f).sum := by
  induction l with
  | nil => cases hc
  | cons x l ih =>
    simp only [List.map_cons, List.sum_cons]
    rcases List.mem_cons.1 hc with h1 | h1
    · rcases List.mem_cons.1 he with h2 | h2
      · exact absurd (h1.trans h2.symm) hne
      · have := le_sum (f := f) h2
        rw [h1]; omega
    · rcases List.mem_cons.1 he with h2 | h2
      · have := le_sum (f := f) h1
        rw [h2]; omega
      · have := ih h1 h2; omega
/-- What is known of the lengths of two symbols and more. -/
structure Fine (cnt : Nat → Nat) (k : Nat) (D : Nat → Nat) : Prop where
  none : ∀ c, c ∉ used cnt k → D c = 0
  some : ∀ c ∈ used cnt k, 1 ≤ D c ∧ D c ≤ 40
  sum : ((used cnt k).map fun c => 2 ^ (40 - D c)).sum = 2 ^ 40
  cost : ((used cnt k).map fun c => cnt c * D c).sum = huff k (srt ((used cnt k).map cnt))
theorem fine (cnt : Nat → Nat) (k : Nat) (hk : k ≤ 256) (hB : ∀ c, cnt c ≤ 1048576) (h2 : 2 ≤ (used cnt k).length) : Fine cnt k (hlen cnt k) := by
  have e0 : hlen cnt k = run k k (things cnt k) (fun _ => 0) := by
    funext c
    unfold hlen
    rw [if_neg (by omega)]
  have hl : (things cnt k).length = (used cnt k).length := by simp [things]
  have hu := used_len cnt k
  have hT : (wts (things cnt k)).sum ≤ 268435456 := by
    rw [wts_things]
    have := sum_le cnt 1048576 (used cnt k) (fun c _ => hB c)
    have : (used cnt k).length * 1048576 ≤ 256 * 1048576 := Nat.mul_le_mul_right _ (by omega)
    omega
  obtain ⟨z, g1, g2, g3, g4⟩ := ends (cnt := cnt) k k (things cnt k) (fun _ => 0) (inv0 cnt k) (by omega) (by omega) hT
  rw [← e0] at g1 g3
  rw [things_sy] at g2
  have kr := g1.kr z List.mem_cons_self
  have hs : ((used cnt k).map fun c => 2 ^ (40 - hlen cnt k c)).sum = 2 ^ 40 := by
    rw [← kr]
    exact (g2.symm.map _).sum_nat
  refine ⟨?_, ?_, hs, ?_⟩
  · intro c hc
    rw [e0]
    refine run_out k k (things cnt k) (fun _ => 0) c fun x hx hcx => hc ?_
    rw [← things_sy]
    exact List.mem_flatMap.2 ⟨x, hx, hcx⟩
  · intro c hc
    have hd := deep (g1.hi z List.mem_cons_self c (g2.symm.subset hc)) g4
    refine ⟨?_, hd⟩
    refine Nat.le_of_not_lt fun h0 => ?_
    obtain ⟨e, he, hne⟩ : ∃ e ∈ used cnt k, c ≠ e := by
      have nd := used_nodup cnt k
      match hm : used cnt k, h2 with
      | a :: b :: r, _ =>
        rw [hm] at nd
        by_cases ca : c = a
        · refine ⟨b, by simp, fun cb => ?_⟩
          have := (List.nodup_cons.1 nd).1
          exact this (by rw [← ca, cb]; simp)
        · exact ⟨a, by simp, ca⟩
    have := sum_pos2 (f := fun c => 2 ^ (40 - hlen cnt k c)) hc he hne
    rw [hs] at this
    have z0 : hlen cnt k c = 0 := by omega
    rw [z0] at this
    have : 0 < 2 ^ (40 - hlen cnt k e) := Nat.two_pow_pos _
    omega
  · have c0 : costs cnt (fun _ => 0) (things cnt k) = 0 := by
      unfold costs
      generalize (things cnt k).flatMap Tg.sy = s
      induction s with
      | nil => rfl
      | cons c s ih =>
        simp only [List.map_cons, List.sum_cons, Nat.mul_zero, Nat.zero_add] at ih ⊢
        exact ih
    rw [c0, Nat.zero_add, wts_things] at g3
    rw [← g3]
    unfold costs
    simp only [List.flatMap_cons, List.flatMap_nil, List.append_nil]
    exact (g2.symm.map _).sum_nat
/-- Lengths beside the weights, in the order of these. -/
theorem along (cnt o : Nat → Nat) (l : List Nat) : ∃ ls : List Nat, ls.Perm (l.map o) ∧ ls.length = (srt (l.map cnt)).length ∧ Hm.cost (srt (l.map cnt)) ls = (l.map fun c => cnt c * o c).sum := by
  induction l with
  | nil => exact ⟨[], List.Perm.refl _, rfl, rfl⟩
  | cons c l ih =>
    obtain ⟨ls, p, len, e⟩ := ih
    obtain ⟨ls', p', len', e'⟩ := cost_ins (cnt c) (o c) (srt (l.map cnt)) ls len
    refine ⟨ls', p'.trans (List.Perm.cons _ p), ?_, ?_⟩
    · show _ = (ins (cnt c) (srt (l.map cnt))).length
      rw [length_ins, len', len]
    · show Hm.cost (ins (cnt c) (srt (l.map cnt))) ls' = _
      rw [e', e]
      rfl
theorem kraft_sum (M : Nat) (l : List Nat) (o : Nat → Nat) : kraft M (l.map o) = (l.map fun c => 2 ^ (M - o c)).sum := by
  induction l with
  | nil => rfl
  | cons c l ih => simp only [List.map_cons, kraft, List.sum_cons, ih]
theorem srt_len (l : List Nat) : (srt l).length = l.length := by
  induction l with
  | nil => rfl
  | cons x l ih => show (ins x (srt l)).length = _; rw [length_ins, ih]; rfl
/-- No lengths that fit cost less. -/
theorem no_less (cnt : Nat → Nat) (k : Nat) (hk : k ≤ 256) (hB : ∀ c, cnt c ≤ 1048576) (o : Nat → Nat) (ho : ∀ c ∈ used cnt k, 1 ≤ o c ∧ o c ≤ 40) (hs : ((used cnt k).map fun c => 2 ^ (40 - o c)).sum ≤ 2 ^ 40) :
    ((used cnt k).map fun c => cnt c * hlen cnt k c).sum ≤ ((used cnt k).map fun c => cnt c * o c).sum := by
  by_cases h2 : 2 ≤ (used cnt k).length
  · have F := fine cnt k hk hB h2
    rw [F.cost]
    obtain ⟨ls, p, len, e⟩ := along cnt o (used cnt k)
    rw [← e]
    refine best 40 k _ ls ?_ len (rises_srt _) ?_ ?_
    · rw [srt_len, List.length_map]
      exact used_len cnt k
    · intro l hl
      obtain ⟨c, hc, rfl⟩ := List.mem_map.1 (p.subset hl)
      exact (ho c hc).2
    · rw [kraft_perm p, kraft_sum]
      exact hs
  · have H : ∀ c ∈ used cnt k, hlen cnt k c ≤ o c := fun c hc => by
      have l1 : (used cnt k).length = 1 := by
        have := List.length_pos_of_mem hc
        omega
      unfold hlen
      rw [if_pos l1, if_pos hc]
      exact (ho c hc).1
    generalize used cnt k = l at *
    clear ho hs h2
    induction l with
    | nil => exact Nat.le_refl _
    | cons c l ih =>
      simp only [List.map_cons, List.sum_cons]
      have h1 := Nat.mul_le_mul_left (cnt c) (H c List.mem_cons_self)
      have h2 := ih (fun x hx => H x (List.mem_cons_of_mem _ hx))
      omega
end Go.Proofs.Ytbkagloonlddfaa.Hp
