/-
  The contract of List.
-/
import Derived.Test.YtjilehaokignoaaDoorMk
namespace Go.Proofs.YtjilehaokignoaaDoor
open Go.RowKit Num Bit
set_option maxRecDepth 100000
set_option linter.unusedVariables false

def lsS (n : Nat) (f : Nat → Nat) (k : Nat) : List Nat := (List.range n).map fun i => if i < k then f i else 0
theorem length_lsS (n : Nat) (f : Nat → Nat) (k : Nat) : (lsS n f k).length = n := by simp [lsS]
theorem gt_lsS (n : Nat) (f : Nat → Nat) (k j : Nat) : gt (lsS n f k) j = if j < n ∧ j < k then f j else 0 := by
  unfold lsS gt
  rw [List.getD_eq_getElem?_getD, List.getElem?_map]
  by_cases h : j < n
  · rw [List.getElem?_range h]
    by_cases c : j < k <;> simp [h, c]
  · rw [List.getElem?_eq_none (by simp; omega)]; simp [h]
theorem lsS_zero (n : Nat) (f : Nat → Nat) : List.replicate n 0 = lsS n f 0 := by
  refine list_ext _ _ (by rw [length_lsS]; simp) fun i hi => ?_
  rw [gt_lsS]
  simp only [List.length_replicate] at hi
  unfold gt
  rw [List.getD_eq_getElem?_getD, List.getElem?_replicate]
  simp [hi]
theorem lsS_step (n : Nat) (f : Nat → Nat) (k : Nat) (h : k < n) : (lsS n f k).set k (f k) = lsS n f (k + 1) := by
  refine list_ext _ _ (by rw [List.length_set, length_lsS, length_lsS]) fun i hi => ?_
  rw [gt_set _ _ _ _ (by rw [length_lsS]; exact h), gt_lsS, gt_lsS]
  rw [List.length_set, length_lsS] at hi
  by_cases c : k = i
  · subst c; simp [h]
  · rw [if_neg c]
    by_cases d : i < k
    · simp [hi, d, show i < k + 1 by omega]
    · simp [d, show ¬ i < k + 1 by omega]
theorem lsS_all (n : Nat) (f : Nat → Nat) : lsS n f n = (List.range n).map f := by
  unfold lsS
  refine List.map_congr_left fun i hi => ?_
  rw [if_pos (List.mem_range.1 hi)]
theorem numAt_lt (n : Nat) (h : n ≤ 64) (xs : List Nat) (i : Nat) : numAt n xs i < 18446744073709551616 := by
  have := numOf_lt n (fun k => bitAt xs (i * n + k))
  have h2 := Nat.pow_le_pow_right (n := 2) (j := 64) (by decide) h
  rw [show (2 : Nat) ^ 64 = 18446744073709551616 from rfl] at h2
  unfold numAt
  omega
theorem fit_map (n : Nat) (f : Nat → Nat) (h : ∀ i, f i < 18446744073709551616) : Fit ((List.range n).map f) := by
  rw [← lsS_all]
  intro i
  rw [gt_lsS]
  split
  · exact h i
  · decide
theorem gt_map (n : Nat) (f : Nat → Nat) (j : Nat) (h : j < n) : gt ((List.range n).map f) j = f j := by
  rw [← lsS_all, gt_lsS, if_pos ⟨h, h⟩]

set_option maxHeartbeats 2000000 in
theorem ilist_ok (N M : Int) (n m : Nat) (hN : N = (n : Int)) (ao : Option Addr) (xs : List Nat) (cap : Nat) (w : World) (hx : Wd w ao xs) (hf : Fit xs) (hk : ichk N (m : Int) M xs = true) :
    Calls Tryd.prog 10 #[.agg #[.int .i64 N, .int .i64 m, .int .i64 M, .slice ao xs.length cap]] w fun e w' => ∃ g, e = .returned (.slice (some ⟨g, 0, none⟩) n n) ∧ w.heap.size ≤ g ∧ Own w' g (lsS n (numAt m xs) n) ∧ Below w.heap.size w w' := by
  subst hN
  obtain ⟨a1, a2, a3, a4, a5, a6, a7, a8⟩ := ichk_out n m M xs hk
  have K : ∀ o, Wd (w.alloc o) ao xs := fun o => hx.keep (below_alloc w o)
  have hn : n ≤ 1048576 := by omega
  have HP : Hid (∀ k : Nat, k < n → 0 ≤ (k : Int) * (m : Int) ∧ (k : Int) * (m : Int) ≤ 1048576 ∧ ((slcX M xs ((k : Int) * m) m : Nat) : Int) = ((numAt m xs k : Nat) : Int)) := by
    intro k hlt
    obtain ⟨q1, q2, q3, q4⟩ := get_place n m M k a1 a2 a3 a4 a7 (by omega) (by omega)
    have h := get_slice n m M xs k hk (by omega) (by omega)
    have h0 := igE_of n m M xs k hk (by omega) (by omega)
    refine ⟨q1, q4, ?_⟩
    rw [h.1]
    unfold igX
    rw [if_pos h0, Int.toNat_natCast, Int.toNat_natCast]
  have HM : Hid (m ≤ 64) := by unfold Hid; omega
  obtain ⟨i0, hi, hz0, hz1, hz2⟩ := info_parts Tryd.info31
  clear a3 a4 a5
  go_enter Tryd.func10, Tryd.ntmps10
  go_wp2_with fail
  refine (mayBe_ok _ _ _ _ _ _ _ (K _) hk).mono ?_
  rintro e w1 ⟨rfl, hb⟩
  have KK := Box4.new hb
  clear hb K
  obtain ⟨⟨hz, k0, k1, k2, k3⟩, hw⟩ := KK
  go_wp2_with (at_make; refine wpList_make_full _ rfl _ _ 22 rfl w1.heap.size 31 i0 (.int .u64 0) 1 Tryd.underlying22 hi hz0 hz1 .i64 .i64 _ _ n rfl rfl rfl rfl ?b2 ?b3 ?b4 ?_)
  case b2 => rw [hz2]; omega
  case b3 => unfold maxLen; omega
  case b4 => omega
  intro w2 hown hgr
  have hO : Own w2 w1.heap.size (List.replicate n 0) := own_made hown
  have hb1 : Below w1.heap.size w1 w2 := (Below.refl _ _).grown hgr (Nat.le_refl _) (fun k h => by cases h)
  have B : Box4 w2 w.heap.size _ _ _ _ := Box4.keep ⟨hz, k0, k1, k2, k3⟩ hb1
  have hw2 := hw.trans (hb1.mono (by omega))
  rw [lsS_zero n (numAt m xs)] at hO
  obtain ⟨g, hgE⟩ : ∃ g, g = w1.heap.size := ⟨_, rfl⟩
  rw [← hgE] at hO ⊢
  have hgw : w.heap.size < g := by omega
  clear hown hgr hi hz0 hz1 hz2 hb1 k0 k1 k2 k3 hw hz hgE
  obtain ⟨hz, k0, k1, k2, k3⟩ := B
  go_wp2
  go_loopw [13] (fun i wr => ∃ q : Nat, q ≤ n ∧ i = .int .i64 q ∧ Own wr g (lsS n (numAt m xs) q) ∧ (w.heap.size < wr.heap.size ∧ wr.cell? ⟨w.heap.size, 0, none⟩ = some (.int .i64 n) ∧ wr.cell? ⟨w.heap.size, 1, none⟩ = some (.int .i64 m) ∧ wr.cell? ⟨w.heap.size, 2, none⟩ = some (.int .i64 M) ∧ wr.cell? ⟨w.heap.size, 3, none⟩ = some (.slice ao xs.length cap)) ∧ Below w.heap.size w wr) (fun i _ => n - (intOf i).toNat)
  case atStart => exact ⟨0, Nat.zero_le _, rfl, hO, ⟨hz, k0, k1, k2, k3⟩, hw2⟩
  case round =>
    obtain ⟨q, hq, rfl, hOr, ⟨r, r0, r1, r2, r3⟩, hwr⟩ := hrel
    clear hz k0 k1 k2 k3 hw2 hO
    by_cases hlt : q < n
    · obtain ⟨p1, p2, p3⟩ := HP.out q hlt
      have P3 : Hid (((slcX M xs ((q : Int) * m) m : Nat) : Int) = ((numAt m xs q : Nat) : Int)) := p3
      have hlt3 : (q : Int) < (n : Int) := by omega
      have FS : Hid ((lsS n (numAt m xs) q).set q (numAt m xs q) = lsS n (numAt m xs) (q + 1)) := lsS_step n _ q hlt
      have hx' := hx.keep hwr
      clear p3
      go_wp2_with fail
      refine (slice_c _ _ _ _ _ _ _ hx' hf (by omega) (by omega) (by omega) (by omega)).mono ?_
      rintro e w4 ⟨rfl, hb⟩
      have B : Box4 w4 w.heap.size _ _ _ _ := Box4.keep ⟨r, r0, r1, r2, r3⟩ hb
      have hO4 := hOr.keep hb
      have e4 := hO4.cell q (by rw [length_lsS]; exact hlt)
      have f4 := hO4.frozen q
      have hw4 := hwr.trans (hb.mono hwr.size)
      have HO4 : Hid (Own w4 g (lsS n (numAt m xs) q)) := hO4
      clear hb r r0 r1 r2 r3 hO4 hOr hx' hwr
      obtain ⟨r, r0, r1, r2, r3⟩ := B
      go_wp2
      rw [P3.out]
      have hO5 := HO4.out.set q (numAt m xs q)
      rw [FS.out] at hO5
      have tt := (Turned.refl g w4).set q (.int .u64 (numAt m xs q))
      exact ⟨⟨q + 1, by omega, by go_num, hO5, ⟨by rw [size_set]; exact r, (tt.cell (p := ⟨w.heap.size, 0, none⟩) (show w.heap.size ≠ g by omega)).trans r0, (tt.cell (p := ⟨w.heap.size, 1, none⟩) (show w.heap.size ≠ g by omega)).trans r1, (tt.cell (p := ⟨w.heap.size, 2, none⟩) (show w.heap.size ≠ g by omega)).trans r2, (tt.cell (p := ⟨w.heap.size, 3, none⟩) (show w.heap.size ≠ g by omega)).trans r3⟩, hw4.trans (tt.below (B := w.heap.size) (by omega))⟩, by simp only [intOf]; omega⟩
    · have hq2 : q = n := by omega
      rw [hq2] at hOr
      clear hq2
      go_wp2
      go_ret
      exact ⟨g, rfl, by omega, hOr, hwr⟩

theorem ilist_c (N W M : Int) (ao : Option Addr) (xs : List Nat) (cap : Nat) (w : World) (hx : Wd w ao xs) (hf : Fit xs) :
    Calls Tryd.prog 10 #[.agg #[.int .i64 N, .int .i64 W, .int .i64 M, .slice ao xs.length cap]] w fun e w' => ∃ bo dap, e = .returned (.slice bo (ilL N W M xs).length dap) ∧ OutF w w' bo (ilL N W M xs) dap := by
  cases hk : ichk N W M xs with
  | true =>
    obtain ⟨a1, a2, a3, a4, a5, a6, a7, a8⟩ := ichk_out N W M xs hk
    obtain ⟨m, rfl⟩ := Int.eq_ofNat_of_zero_le (show 0 ≤ W by omega)
    obtain ⟨n, rfl⟩ := Int.eq_ofNat_of_zero_le a3
    have e : ilL n m M xs = (List.range n).map (numAt m xs) := by unfold ilL; rw [if_pos hk, Int.toNat_natCast, Int.toNat_natCast]
    refine (ilist_ok n M n m rfl ao xs cap w hx hf hk).mono ?_
    rintro e w' ⟨g, rfl, hgg, hO, hb⟩
    rw [lsS_all] at hO
    rw [e]
    exact ⟨some ⟨g, 0, none⟩, n, by simp, hO.wd, fit_map _ _ (fun i => numAt_lt m (by omega) xs i), by simp, fun a ha => by cases ha; exact hgg, hb⟩
  | false =>
    have e : ilL N W M xs = [] := by unfold ilL; rw [if_neg (by simp [hk])]
    have K : ∀ o, Wd (w.alloc o) ao xs := fun o => hx.keep (below_alloc w o)
    rw [e]
    clear e
    go_enter Tryd.func10, Tryd.ntmps10
    go_wp2_with (go_at_call 28; refine (mayBe_bad _ _ _ _ _ _ _ (K _) hk).mono ?_; rintro e w' ⟨⟨s, rfl⟩, hb⟩; have KK := Box4.new hb; clear hb; obtain ⟨⟨hz, c0, c1, c2, c3⟩, hw⟩ := KK)
    go_ret
    exact ⟨none, 0, rfl, fun h => absurd h (by simp), fun i => by unfold gt; simp, by simp, fun a ha => (by cases ha), by assumption⟩
end Go.Proofs.YtjilehaokignoaaDoor
