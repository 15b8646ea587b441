/-
  The contracts of makeable, Make and Of.
-/
import Derived.Test.YtjilehaokignoaaDoorLay
namespace Go.Proofs.YtjilehaokignoaaDoor
open Go.RowKit Num Bit
set_option maxRecDepth 100000
set_option linter.unusedVariables false

theorem imE_zero (W : Int) (l : List Nat) (h : imE W l = 0) : 1 ≤ W ∧ W ≤ 64 ∧ (l.length : Int) * W ≤ 1048576 ∧ ∀ j, j < l.length → lenI (gt l j) ≤ W := by
  unfold imE at h
  by_cases c : W < 1 ∨ 64 < W ∨ 1048576 < (l.length : Int) * W ∨ ¬ (∀ j, j < l.length → lenI (gt l j) ≤ W)
  · rw [if_pos c] at h; omega
  · refine ⟨by omega, by omega, by omega, ?_⟩
    exact Classical.byContradiction fun hc => c (.inr (.inr (.inr hc)))
theorem imE_bad (W : Int) (l : List Nat) (h : imE W l ≠ 0) : imE W l = 2 := by
  unfold imE at *
  split at h
  · rename_i c; rw [if_pos c]
  · exact absurd rfl h
theorem quo_le (W n : Int) (h0 : 1 ≤ W) : n ≤ 1048576 / W ↔ n * W ≤ 1048576 := Int.le_ediv_iff_mul_le (by omega)
theorem quo_bd (W : Int) (h0 : 1 ≤ W) : 0 ≤ 1048576 / W ∧ 1048576 / W ≤ 1048576 := ⟨Int.ediv_nonneg (by decide) (by omega), Int.ediv_le_self _ (by decide)⟩

set_option maxHeartbeats 1000000 in
theorem makeable_ok (W : Int) (al : Option Addr) (l : List Nat) (cap : Nat) (w : World) (hx : Wd w al l) (hf : Fit l) (hE : imE W l = 0) :
    Calls Tryd.prog 24 #[.int .i64 W, .slice al l.length cap] w fun e w' => e = .returned .nilIface ∧ w' = w := by
  obtain ⟨a1, a2, a3, a4⟩ := imE_zero W l hE
  have q1 : (l.length : Int) ≤ 1048576 / W := (quo_le W _ a1).2 a3
  obtain ⟨q2, q3⟩ := quo_bd W a1
  have hll : l.length ≤ 1048576 := by omega
  have HA : Hid (∀ j, j < l.length → lenI (gt l j) ≤ W) := a4
  clear hE a3 a4
  go_enter Tryd.func24, Tryd.ntmps24
  go_wp2_with (go_at_call 40; refine (wide_ok _ ?_ ?_ _).mono ?_; exact a1; exact a2; rintro e w' ⟨rfl, rfl⟩)
  go_loop [23] (fun i => ∃ k : Nat, k ≤ l.length ∧ i = .int .i64 k) (fun i => l.length - (intOf i).toNat)
  case atStart => exact ⟨0, by omega, rfl⟩
  case round =>
    obtain ⟨k, hk, rfl⟩ := hrel
    by_cases hlt : k < l.length
    · obtain ⟨b, off, rfl, hb, hc⟩ := hx (by omega)
      have e1 := hc k hlt
      have hlt3 : (k : Int) < (l.length : Int) := by omega
      have F1 : Hid ((gt l k : Int) < 18446744073709551616) := by unfold Hid; have := hf k; omega
      clear hc
      go_wp2_with (go_at_call 41; refine (narrow_ok _ _ ?_ ?_ ?_ _).mono ?_; (exact Int.natCast_nonneg _); exact F1.out; (exact HA.out k hlt); rintro e w' ⟨rfl, rfl⟩)
      go_round
      case rel => exact ⟨k + 1, by omega, by go_num⟩
      case measure => simp only [intOf]; omega
    · go_wp2
      go_ret
      exact ⟨rfl, rfl⟩

set_option maxHeartbeats 1000000 in
theorem makeable_bad (W : Int) (al : Option Addr) (l : List Nat) (cap : Nat) (w : World) (hx : Wd w al l) (hf : Fit l) (hE : imE W l ≠ 0) (hcap : l.length ≤ 9223372036854775807) :
    Calls Tryd.prog 24 #[.int .i64 W, .slice al l.length cap] w fun e w' => (∃ s, e = .returned (.iface 74 (.agg #[.int .i64 2, .string s]))) ∧ w' = w := by
  by_cases c : W < 1 ∨ 64 < W
  · clear hE
    go_enter Tryd.func24, Tryd.ntmps24
    go_wp2_with (go_at_call 40; refine (wide_bad _ ?_ _).mono ?_; exact c; rintro e w' ⟨⟨s, rfl⟩, rfl⟩)
    go_ret
    exact ⟨⟨_, rfl⟩, rfl⟩
  have a1 : 1 ≤ W := by omega
  have a2 : W ≤ 64 := by omega
  obtain ⟨q2, q3⟩ := quo_bd W a1
  by_cases c2 : 1048576 / W < (l.length : Int)
  · clear hE
    go_enter Tryd.func24, Tryd.ntmps24
    go_wp2_with (go_at_call 40; refine (wide_ok _ ?_ ?_ _).mono ?_; exact a1; exact a2; rintro e w' ⟨rfl, rfl⟩)
    go_ret
    exact ⟨⟨_, rfl⟩, rfl⟩
  have q1 : (l.length : Int) ≤ 1048576 / W := by omega
  have a3 := (quo_le W _ a1).1 q1
  have hll : l.length ≤ 1048576 := by omega
  have HA : Hid (¬ ∀ j, j < l.length → lenI (gt l j) ≤ W) := fun h => hE (by unfold imE; rw [if_neg]; rintro (h1 | h1 | h1 | h1) <;> first | omega | exact h1 h)
  clear hE c c2 a3
  go_enter Tryd.func24, Tryd.ntmps24
  go_wp2_with (go_at_call 40; refine (wide_ok _ ?_ ?_ _).mono ?_; exact a1; exact a2; rintro e w' ⟨rfl, rfl⟩)
  go_loop [23] (fun i => ∃ k : Nat, k ≤ l.length ∧ i = .int .i64 k ∧ Hid (∀ j, j < k → lenI (gt l j) ≤ W)) (fun i => l.length - (intOf i).toNat)
  case atStart => exact ⟨0, by omega, rfl, fun j hj => absurd hj (by omega)⟩
  case round =>
    obtain ⟨k, hk, rfl, H⟩ := hrel
    by_cases hlt : k < l.length
    · obtain ⟨b, off, rfl, hb, hc⟩ := hx (by omega)
      have e1 := hc k hlt
      have hlt3 : (k : Int) < (l.length : Int) := by omega
      have F1 : Hid ((gt l k : Int) < 18446744073709551616) := by unfold Hid; have := hf k; omega
      clear hc
      by_cases hfit : lenI (gt l k) ≤ W
      · have HF : Hid (lenI (gt l k) ≤ W) := hfit
        clear hfit
        go_wp2_with (go_at_call 41; refine (narrow_ok _ _ ?_ ?_ ?_ _).mono ?_; (exact Int.natCast_nonneg _); exact F1.out; exact HF.out; rintro e w' ⟨rfl, rfl⟩)
        go_round
        case rel =>
          refine ⟨k + 1, by omega, by go_num, fun j hj => ?_⟩
          by_cases e : j = k
          · subst e; exact HF.out
          · exact H.out j (by omega)
        case measure => simp only [intOf]; omega
      · have HF : Hid (W < lenI (gt l k)) := by unfold Hid; omega
        clear hfit
        go_wp2_with (go_at_call 41; refine (narrow_bad _ _ ?_ ?_ ?_ _).mono ?_; (exact Int.natCast_nonneg _); exact F1.out; exact HF.out; rintro e w' ⟨⟨s, rfl⟩, rfl⟩)
        go_ret
        exact ⟨⟨_, rfl⟩, rfl⟩
    · exact absurd (fun j hj => H.out j (by omega)) HA.out

set_option maxHeartbeats 2000000 in
theorem make_ok (W : Nat) (al : Option Addr) (l : List Nat) (cap k : Nat) (w : World) (hx : Wd w al l) (hf : Fit l) (hE : imE (W : Int) l = 0) (hk : k = (l.length * W + 63) / 64) :
    Calls Tryd.prog 9 #[.int .i64 W, .slice al l.length cap] w fun e w' => ∃ g, e = .returned (.tuple #[.agg #[.int .i64 l.length, .int .i64 W, .int .i64 ((l.length : Int) * W), .slice (some ⟨g, 0, none⟩) k k], .int .i64 0]) ∧ w.heap.size ≤ g ∧ Own w' g (mkS l W l.length) ∧ Below w.heap.size w w' := by
  obtain ⟨a1, a2, a3, a4⟩ := imE_zero W l hE
  have K : ∀ o, Wd (w.alloc o) al l := fun o => hx.keep (below_alloc w o)
  have hm : l.length * W ≤ 1048576 := by
    have : ((l.length * W : Nat) : Int) ≤ 1048576 := by rw [Int.natCast_mul]; exact a3
    omega
  have hll : l.length ≤ 1048576 := Nat.le_trans (Nat.le_mul_of_pos_right _ (by omega)) hm
  have hmi : (0 : Int) ≤ (l.length : Int) * (W : Int) := Int.mul_nonneg (by omega) (by omega)
  have HK : Hid (k = (l.length * W + 63) / 64) := hk
  have HK1 : Hid (((l.length : Int) * W + 63) / 64 = (k : Int)) := by unfold Hid; rw [← Int.natCast_mul]; omega
  have HE : Hid (imE (W : Int) l = 0) := hE
  have HA : Hid (∀ j, j < l.length → gt l j < 2 ^ W) := fun j hj => (lenI_fit _ _).1 (a4 j hj)
  clear hk hE a4
  go_enter Tryd.func9, Tryd.ntmps9
  go_wp2_with fail
  refine (makeable_ok _ _ _ _ _ (K _) hf HE.out).mono ?_
  rintro e w' ⟨rfl, hw'⟩
  subst hw'
  go_wp2_with fail
  refine (new_ok _ k _ hmi a3 HK1.out).mono ?_
  rintro e w1 ⟨g, rfl, hg1, hg2, hO, hb⟩
  have KF : w1.frozen? ⟨w.heap.size, 0, none⟩ = false ∧ w1.frozen? ⟨w.heap.size, 1, none⟩ = false ∧ w1.frozen? ⟨w.heap.size, 2, none⟩ = false ∧ w1.frozen? ⟨w.heap.size, 3, none⟩ = false :=
    ⟨(hb.frozen (p := ⟨w.heap.size, 0, none⟩) (by simp)).trans (by simp), (hb.frozen (p := ⟨w.heap.size, 1, none⟩) (by simp)).trans (by simp), (hb.frozen (p := ⟨w.heap.size, 2, none⟩) (by simp)).trans (by simp), (hb.frozen (p := ⟨w.heap.size, 3, none⟩) (by simp)).trans (by simp)⟩
  have KK := Box4.new hb
  have hg0 : w.heap.size + 1 ≤ g := by simpa using hg1
  clear hb hg1 K
  obtain ⟨⟨hz, k0, k1, k2, k3⟩, hw⟩ := KK
  obtain ⟨f0, f1, f2, f3⟩ := KF
  go_wp2
  go_loopw [33] (fun i wr => ∃ q : Nat, q ≤ l.length ∧ i = .int .i64 q ∧ Own wr g (mkS l W q) ∧ (wr.cell? ⟨w1.heap.size, 0, none⟩ = some (.int .i64 ((l.length : Int) * W)) ∧ wr.cell? ⟨w1.heap.size, 1, none⟩ = some (.slice (some ⟨g, 0, none⟩) k k)) ∧ (wr.cell? ⟨w.heap.size, 0, none⟩ = some (.int .i64 0) ∧ wr.cell? ⟨w.heap.size, 1, none⟩ = some (.int .i64 0) ∧ wr.cell? ⟨w.heap.size, 2, none⟩ = some (.int .i64 0) ∧ wr.cell? ⟨w.heap.size, 3, none⟩ = some (.slice none 0 0)) ∧ (wr.frozen? ⟨w.heap.size, 0, none⟩ = false ∧ wr.frozen? ⟨w.heap.size, 1, none⟩ = false ∧ wr.frozen? ⟨w.heap.size, 2, none⟩ = false ∧ wr.frozen? ⟨w.heap.size, 3, none⟩ = false) ∧ Below w.heap.size w wr) (fun i _ => l.length - (intOf i).toNat)
  case atStart =>
    have hb := below_alloc w1 (.cells #[.int .i64 ((l.length : Int) * W), .slice (some ⟨g, 0, none⟩) k k] 25)
    refine ⟨0, Nat.zero_le _, rfl, ?_, ⟨by simp, by simp⟩, ⟨(hb.cell (p := ⟨w.heap.size, 0, none⟩) hz).trans k0, (hb.cell (p := ⟨w.heap.size, 1, none⟩) hz).trans k1, (hb.cell (p := ⟨w.heap.size, 2, none⟩) hz).trans k2, (hb.cell (p := ⟨w.heap.size, 3, none⟩) hz).trans k3⟩, ⟨(hb.frozen (p := ⟨w.heap.size, 0, none⟩) hz).trans f0, (hb.frozen (p := ⟨w.heap.size, 1, none⟩) hz).trans f1, (hb.frozen (p := ⟨w.heap.size, 2, none⟩) hz).trans f2, (hb.frozen (p := ⟨w.heap.size, 3, none⟩) hz).trans f3⟩, hw.trans (hb.mono (by omega))⟩
    rw [← mkS_zero, ← rep_row (l.length * W) k HK.out]
    exact hO.keep hb
  case round =>
    obtain ⟨q, hq, rfl, hOr, ⟨r0, r1⟩, ⟨s0, s1, s2, s3⟩, ⟨t0, t1, t2, t3⟩, hwr⟩ := hrel
    by_cases hlt : q < l.length
    · obtain ⟨b, off, rfl, hb, hc⟩ := hx (by omega)
      have e1 := (hwr.cell (p := ⟨b, off + q, none⟩) hb).trans (hc q hlt)
      have hlt3 : (q : Int) < (l.length : Int) := by omega
      have hn := mul_next l.length W q hlt
      have hqW : q * W ≤ 1048576 := by omega
      have hqi : (0 : Int) ≤ (q : Int) * (W : Int) := Int.mul_nonneg (by omega) (by omega)
      have hqi2 : (q : Int) * (W : Int) ≤ 1048576 := by rw [← Int.natCast_mul]; omega
      have FS : Hid (layL (mkS l W q) (q * W) W (gt l q) = mkS l W (q + 1)) := mkS_step l W q (by omega) (by omega) hlt (HA.out q hlt) (hf q)
      have HLN : Hid ((mkS l W q).length = k) := by unfold Hid; rw [length_mkS]; exact HK.out.symm
      have HP : Hid (q * W + W ≤ 64 * (mkS l W q).length) := by unfold Hid; rw [length_mkS]; omega
      have HC : Hid ((q : Int) * (W : Int) = ((q * W : Nat) : Int)) := (Int.natCast_mul q W).symm
      clear hc hn
      go_wp2_with fail
      rw [HC.out]
      refine (lay_c (mkS l W q) k g k (q * W) W (gt l q) _ HLN.out hOr (fit_mkS _ _ _) (by omega) (by omega) (hf q) HP.out hqW).mono ?_
      rintro e w4 ⟨rfl, hO4, hT⟩
      rw [FS.out] at hO4
      have u0 := (hT.cell (p := ⟨w1.heap.size, 0, none⟩) (show w1.heap.size ≠ g by omega)).trans r0
      have u1 := (hT.cell (p := ⟨w1.heap.size, 1, none⟩) (show w1.heap.size ≠ g by omega)).trans r1
      have x0 := (hT.cell (p := ⟨w.heap.size, 0, none⟩) (show w.heap.size ≠ g by omega)).trans s0
      have x1 := (hT.cell (p := ⟨w.heap.size, 1, none⟩) (show w.heap.size ≠ g by omega)).trans s1
      have x2 := (hT.cell (p := ⟨w.heap.size, 2, none⟩) (show w.heap.size ≠ g by omega)).trans s2
      have x3 := (hT.cell (p := ⟨w.heap.size, 3, none⟩) (show w.heap.size ≠ g by omega)).trans s3
      have y0 := (hT.frozen (p := ⟨w.heap.size, 0, none⟩) (show w.heap.size ≠ g by omega)).trans t0
      have y1 := (hT.frozen (p := ⟨w.heap.size, 1, none⟩) (show w.heap.size ≠ g by omega)).trans t1
      have y2 := (hT.frozen (p := ⟨w.heap.size, 2, none⟩) (show w.heap.size ≠ g by omega)).trans t2
      have y3 := (hT.frozen (p := ⟨w.heap.size, 3, none⟩) (show w.heap.size ≠ g by omega)).trans t3
      have hw4 := hwr.trans (hT.below (B := w.heap.size) (by omega))
      clear hT r0 r1 s0 s1 s2 s3 t0 t1 t2 t3 hwr hOr e1
      go_wp2
      exact ⟨⟨q + 1, by omega, by go_num, hO4, ⟨u0, u1⟩, ⟨x0, x1, x2, x3⟩, ⟨y0, y1, y2, y3⟩, hw4⟩, by simp only [intOf]; omega⟩
    · have hq2 : q = l.length := by omega
      rw [hq2] at hOr
      clear hq2
      go_wp2
      refine bodyPost_ret (v := .tuple #[.agg #[.int .i64 l.length, .int .i64 W, .int .i64 ((l.length : Int) * W), .slice (some ⟨g, 0, none⟩) k k], .int .i64 0]) (by simp [results, Tryd.results9, go_sem, s0, s1, s2, s3]) rfl ⟨g, rfl, by omega, ?_, ?_⟩
      · exact (((hOr.set_other (by simp; omega) _).set_other (by simp; omega) _).set_other (by simp; omega) _).set_other (by simp; omega) _
      · exact (((hwr.setCell (by simp) _).setCell (by simp) _).setCell (by simp) _).setCell (by simp) _

theorem make_bad (W : Int) (al : Option Addr) (l : List Nat) (cap : Nat) (w : World) (hg : ET w) (hx : Wd w al l) (hf : Fit l) (hE : imE W l ≠ 0) (hcap : l.length ≤ 9223372036854775807) :
    Calls Tryd.prog 9 #[.int .i64 W, .slice al l.length cap] w fun e w' => e = .returned (.tuple #[.agg #[.int .i64 0, .int .i64 0, .int .i64 0, .slice none 0 0], .int .i64 2]) ∧ Below w.heap.size w w' := by
  have K : ∀ o, Wd (w.alloc o) al l := fun o => hx.keep (below_alloc w o)
  go_enter Tryd.func9, Tryd.ntmps9
  go_wp2_with fail
  refine (makeable_bad _ _ _ _ _ (K _) hf hE hcap).mono ?_
  rintro e w' ⟨⟨s, rfl⟩, hw'⟩
  subst hw'
  go_wp2_with fail
  refine (numberOf_c _ _ _ (hg.keep (below_alloc _ _))).mono ?_
  rintro e w1 ⟨rfl, hb⟩
  have KF : w1.frozen? ⟨w.heap.size, 0, none⟩ = false ∧ w1.frozen? ⟨w.heap.size, 1, none⟩ = false ∧ w1.frozen? ⟨w.heap.size, 2, none⟩ = false ∧ w1.frozen? ⟨w.heap.size, 3, none⟩ = false :=
    ⟨(hb.frozen (p := ⟨w.heap.size, 0, none⟩) (by simp)).trans (by simp), (hb.frozen (p := ⟨w.heap.size, 1, none⟩) (by simp)).trans (by simp), (hb.frozen (p := ⟨w.heap.size, 2, none⟩) (by simp)).trans (by simp), (hb.frozen (p := ⟨w.heap.size, 3, none⟩) (by simp)).trans (by simp)⟩
  have KK := Box4.new hb
  clear hb K
  obtain ⟨⟨hz, k0, k1, k2, k3⟩, hw⟩ := KK
  obtain ⟨f0, f1, f2, f3⟩ := KF
  go_wp2
  refine bodyPost_ret (v := .tuple #[.agg #[.int .i64 0, .int .i64 0, .int .i64 0, .slice none 0 0], .int .i64 2]) (by simp [results, Tryd.results9, go_sem, k0, k1, k2, k3]) rfl ⟨rfl, ?_⟩
  exact (((hw.setCell (by simp) _).setCell (by simp) _).setCell (by simp) _).setCell (by simp) _

/-- As Out, and the words lie in memory that is new. -/
def OutF (w w' : World) (ao : Option Addr) (ys : List Nat) (cap : Nat) : Prop := Wd w' ao ys ∧ Fit ys ∧ ys.length ≤ cap ∧ (∀ a, ao = some a → w.heap.size ≤ a.block) ∧ Below w.heap.size w w'
theorem Wd.set_other {w : World} {ao : Option Addr} {xs : List Nat} (h : Wd w ao xs) {a : Addr} (hn : ∀ p, ao = some p → p.block ≠ a.block) (v : Value) : Wd (w.setCell a v) ao xs := by
  intro hi
  obtain ⟨b, off, e, hlt, hc⟩ := h hi
  have hne := hn _ e
  refine ⟨b, off, e, by rw [size_set]; exact hlt, fun i hi => ?_⟩
  rw [← hc i hi]
  exact World.cell?_of_block (w := w) (a := ⟨b, off + i, none⟩) (Below.heap_setCell w a v b hne)

theorem make_c (W : Int) (al : Option Addr) (l : List Nat) (cap : Nat) (w : World) (hg : ET w) (hx : Wd w al l) (hf : Fit l) (hcap : l.length ≤ 9223372036854775807) :
    Calls Tryd.prog 9 #[.int .i64 W, .slice al l.length cap] w fun e w' => ∃ bo dap, e = .returned (.tuple #[.agg #[.int .i64 (imN W l), .int .i64 (imW W l), .int .i64 (imM W l), .slice bo (imL W l).length dap], .int .i64 (imE W l)]) ∧ OutF w w' bo (imL W l) dap := by
  by_cases hE : imE W l = 0
  · obtain ⟨a1, a2, a3, a4⟩ := imE_zero W l hE
    obtain ⟨m, rfl⟩ := Int.eq_ofNat_of_zero_le (show 0 ≤ W by omega)
    refine (make_ok m al l cap _ w hx hf hE rfl).mono ?_
    rintro e w' ⟨g, rfl, hg0, hO, hb⟩
    have h1 : imL (m : Int) l = mkS l m l.length := by unfold imL; rw [if_pos hE, Int.toNat_natCast]
    have h2 : imN (m : Int) l = l.length := by unfold imN; rw [if_pos hE]
    have h3 : imW (m : Int) l = m := by unfold imW; rw [if_pos hE]
    have h4 : imM (m : Int) l = (l.length : Int) * m := by unfold imM; rw [if_pos hE]
    rw [h1, h2, h3, h4, hE]
    exact ⟨some ⟨g, 0, none⟩, _, by rw [length_mkS], hO.wd, fit_mkS _ _ _, by rw [length_mkS]; exact Nat.le_refl _, fun a ha => by cases ha; exact hg0, hb⟩
  · refine (make_bad W al l cap w hg hx hf hE hcap).mono ?_
    rintro e w' ⟨rfl, hb⟩
    have h1 : imL W l = [] := by unfold imL; rw [if_neg hE]
    have h2 : imN W l = 0 := by unfold imN; rw [if_neg hE]
    have h3 : imW W l = 0 := by unfold imW; rw [if_neg hE]
    have h4 : imM W l = 0 := by unfold imM; rw [if_neg hE]
    rw [h1, h2, h3, h4, imE_bad W l hE]
    exact ⟨none, 0, rfl, fun h => absurd h (by simp), fun i => by unfold gt; simp, by simp, fun a ha => (by cases ha), hb⟩

set_option maxHeartbeats 1000000 in
theorem of_c (al : Option Addr) (l : List Nat) (cap : Nat) (w : World) (hg : ET w) (hx : Wd w al l) (hf : Fit l) (hcap : l.length ≤ 1048576) :
    Calls Tryd.prog 8 #[.slice al l.length cap] w fun e w' => ∃ bo dap, e = .returned (.tuple #[.agg #[.int .i64 (imN (wm l l.length) l), .int .i64 (imW (wm l l.length) l), .int .i64 (imM (wm l l.length) l), .slice bo (imL (wm l l.length) l).length dap], .int .i64 (imE (wm l l.length) l)]) ∧ OutF w w' bo (imL (wm l l.length) l) dap := by
  have K : ∀ o, Wd (w.alloc o) al l := fun o => hx.keep (below_alloc w o)
  have hx1 := K (.cells #[.int .i64 0, .int .i64 0, .int .i64 0, .slice none 0 0] 27)
  go_enter Tryd.func8, Tryd.ntmps8
  go_wp2
  go_loop [4, 9] (fun m i => ∃ k : Nat, k ≤ l.length ∧ i = .int .i64 k ∧ m = .int .i64 (wm l k)) (fun _ i => l.length - (intOf i).toNat)
  case atStart => exact ⟨0, by omega, rfl, rfl⟩
  case round =>
    obtain ⟨k, hk, rfl, rfl⟩ := hrel
    by_cases hlt : k < l.length
    · obtain ⟨b, off, rfl, hb, hc⟩ := hx1 (by omega)
      have e1 := hc k hlt
      have hlt3 : (k : Int) < (l.length : Int) := by omega
      have F1 : Hid ((gt l k : Int) < 18446744073709551616) := by unfold Hid; have := hf k; omega
      have ME : Hid ((if ((wm l k : Nat) : Int) < lenI (gt l k) then lenI (gt l k) else ((wm l k : Nat) : Int)) = ((wm l (k + 1) : Nat) : Int)) := by
        unfold Hid lenI; simp only [wm, Int.toNat_natCast]; split <;> omega
      clear hc
      go_wp2_with (go_at_call 23; refine (len_c _ ?_ ?_ _).mono ?_; (exact Int.natCast_nonneg _); exact F1.out; rintro e w' ⟨rfl, rfl⟩)
      go_round
      case rel => exact ⟨k + 1, by omega, by go_num, congrArg (Value.int IntKind.i64) ME.out⟩
      case measure => simp only [intOf]; omega
    · have hq2 : k = l.length := by omega
      subst hq2
      go_wp2_with fail
      refine (make_c _ _ _ _ _ (hg.keep (below_alloc _ _)) (K _) hf (by omega)).mono ?_
      rintro e w1 ⟨bo, dap, rfl, hX, hF, hC, hN, hb⟩
      have KF : w1.frozen? ⟨w.heap.size, 0, none⟩ = false ∧ w1.frozen? ⟨w.heap.size, 1, none⟩ = false ∧ w1.frozen? ⟨w.heap.size, 2, none⟩ = false ∧ w1.frozen? ⟨w.heap.size, 3, none⟩ = false :=
        ⟨(hb.frozen (p := ⟨w.heap.size, 0, none⟩) (by simp)).trans (by simp), (hb.frozen (p := ⟨w.heap.size, 1, none⟩) (by simp)).trans (by simp), (hb.frozen (p := ⟨w.heap.size, 2, none⟩) (by simp)).trans (by simp), (hb.frozen (p := ⟨w.heap.size, 3, none⟩) (by simp)).trans (by simp)⟩
      have KK := Box4.new hb
      clear hb K
      obtain ⟨⟨hz, k0, k1, k2, k3⟩, hw⟩ := KK
      obtain ⟨f0, f1, f2, f3⟩ := KF
      have hN' : ∀ p, bo = some p → p.block ≠ w.heap.size := fun p hp => by have := hN p hp; simp at this; omega
      have HX : Hid (Wd w1 bo (imL (wm l l.length) l)) := hX
      clear hX
      go_wp2
      refine bodyPost_ret (v := .tuple #[.agg #[.int .i64 (imN (wm l l.length) l), .int .i64 (imW (wm l l.length) l), .int .i64 (imM (wm l l.length) l), .slice bo (imL (wm l l.length) l).length dap], .int .i64 (imE (wm l l.length) l)]) (by simp [results, Tryd.results8, go_sem, k0, k1, k2, k3]) rfl ⟨bo, dap, rfl, ?_, hF, hC, fun a ha => (by have := hN a ha; simp at this; omega), ?_⟩
      · exact (((HX.out.set_other hN' _).set_other hN' _).set_other hN' _).set_other hN' _
      · exact (((hw.setCell (by simp) _).setCell (by simp) _).setCell (by simp) _).setCell (by simp) _
end Go.Proofs.YtjilehaokignoaaDoor
