/-
  The contract of the document's Append.
-/
import Derived.Test.YtjilehaokignoaaStep
import Derived.Test.YtjilehaokignoaaRefSet
import Derived.Deep.DeepCutAuto
import Derived.Deep.CutBlock
namespace Go.Proofs.Ytjilehaokignoaa
open Go.RowKit Num Bit

theorem src_wd {w : World} {ao : Option Addr} {xs : List Nat} (h : Wd w ao xs) : 0 < xs.length → ∃ ad, ao = some ad ∧ ∀ j u, (wv xs)[j]? = some u → w.cell? (ad.add j) = some u := by
  intro hl
  obtain ⟨b, off, e, _, hc⟩ := h hl
  exact ⟨⟨b, off, none⟩, e, news_wd hc⟩


/-- What stands behind the statement that copies the row. -/
def AppS (w wx : World) (m n : Nat) (xs : List Nat) (T : Nat) (co : Option Addr) (cc : Nat) : Prop :=
  (wx.cell? ⟨T, 0, none⟩ = some (.int .i64 ((m : Int) + n)) ∧ wx.cell? ⟨T, 1, none⟩ = some (.slice co xs.length cc) ∧ wx.frozen? ⟨T, 1, none⟩ = false ∧ T < wx.heap.size ∧ w.heap.size + 1 < T) ∧
  wx.cell? ⟨w.heap.size, 0, none⟩ = some (.int .i64 m) ∧
  (wx.cell? ⟨w.heap.size + 1, 0, none⟩ = some (.int .i64 0) ∧ wx.cell? ⟨w.heap.size + 1, 1, none⟩ = some (.slice none 0 0) ∧ wx.frozen? ⟨w.heap.size + 1, 0, none⟩ = false ∧ wx.frozen? ⟨w.heap.size + 1, 1, none⟩ = false) ∧
  wx.ownsRow (w.heap.size + 2) 25 1 (.slice co xs.length cc) xs.length (wv xs) ∧ xs.length ≤ cc ∧ (∀ k, (Value.slice co xs.length cc).ownBlock = some k → k ≠ T) ∧ Below w.heap.size w wx

theorem owns_turned {w w' : World} {base n T : Nat} {v : Value} {vs : List Value} (h : w.ownsRow base 25 1 v n vs) (ht : Turned T w w') (hne : ∀ k, v.ownBlock = some k → k ≠ T) : w'.ownsRow base 25 1 v n vs := by
  obtain ⟨h1, h2 | ⟨g, cap, cur, rfl, e2, hh, r⟩⟩ := h
  · exact ⟨h1, .inl h2⟩
  · exact ⟨h1, .inr ⟨g, cap, cur, rfl, e2, (ht.block g (hne g rfl)).trans hh, r⟩⟩
theorem owns_base {w : World} {base base' n : Nat} {v : Value} {vs : List Value} (h : w.ownsRow base 25 1 v n vs) (hb : base' ≤ base) : w.ownsRow base' 25 1 v n vs := by
  obtain ⟨h1, h2 | ⟨g, cap, cur, e1, e2, r⟩⟩ := h
  · exact ⟨h1, .inl h2⟩
  · exact ⟨h1, .inr ⟨g, cap, cur, e1, by omega, r⟩⟩

def apS (xs : List Nat) (y m n q : Nat) : List Nat := rowOf (m + n) (fun j => if j < m then bitAt xs j else decide (j < m + q) && y.testBit (j - m))
theorem length_apS (xs : List Nat) (y m n q : Nat) : (apS xs y m n q).length = (m + n + 63) / 64 := length_rowOf _ _
theorem fit_apS (xs : List Nat) (y m n q : Nat) : Fit (apS xs y m n q) := fit_rowOf _ _
theorem apS_zero (xs : List Nat) (y m n k : Nat) (hf : Fit xs) (hk : chk (m : Int) xs = true) (hkk : k = (m + n + 63) / 64) : cp xs k = apS xs y m n 0 := by
  obtain ⟨_, _, hl, _⟩ := chk_out m xs hk
  refine eq_rowOf _ _ _ (fit_cp xs hf k) (by rw [length_cp]; exact hkk) fun i hi => ?_
  rw [length_cp] at hi
  have hb : bitAt (cp xs k) i = bitAt xs i := by unfold bitAt; rw [gt_cp xs k _ (by omega)]
  rw [hb]
  by_cases c : i < m
  · rw [if_pos c]; simp [show i < m + n by omega]
  · rw [if_neg c, chk_high m xs hk i (by omega), show decide (i < m + 0) = false by simp; omega]; simp
theorem apS_step (xs : List Nat) (y m n q : Nat) (hq : q < n) (hN : m + n ≤ 1048576) : rputL (apS xs y m n q) (m + q) (y.testBit q) = apS xs y m n (q + 1) := by
  have e := rput_row ((m + n : Nat) : Int) (apS xs y m n q) (fit_apS _ _ _ _ _) (chk_rowOf _ _ hN) (m + q) (by omega) (y.testBit q)
  rw [e, Int.toNat_natCast]
  refine rowOf_congr _ _ _ fun i hi => ?_
  unfold apS
  rw [bitAt_rowOf]
  by_cases c : i = m + q
  · subst c; rw [if_pos rfl, if_neg (by omega)]; simp
  · rw [if_neg c]
    by_cases c1 : i < m
    · rw [if_pos c1, if_pos c1]; simp [hi]
    · rw [if_neg c1, if_neg c1]
      by_cases c2 : i < m + q
      · simp [hi, c2, show i < m + (q + 1) by omega]
      · simp [c2, show ¬ i < m + (q + 1) by omega]
theorem apS_all (xs : List Nat) (y m n : Nat) : apS xs y m n n = rowOf (m + n) (fun j => if j < m then bitAt xs j else y.testBit (j - m)) := by
  refine rowOf_congr _ _ _ fun i hi => ?_
  by_cases c : i < m
  · rw [if_pos c, if_pos c]
  · rw [if_neg c, if_neg c]; simp [hi]
theorem app_bit (y q : Nat) : (((y : Int) / 2 ^ q).tmod 2 == 1) = y.testBit q := by
  rw [bit_tmod _ _ (Int.natCast_nonneg _), bit_test, Int.toNat_natCast, Bool.eq_iff_iff, beq_iff_eq, decide_eq_true_eq]
  omega
theorem wv_snoc (xs : List Nat) : wv xs ++ [.int .u64 0] = wv (cp xs (xs.length + 1)) := by
  unfold wv cp
  rw [List.map_append, List.take_of_length_le (by omega), show xs.length + 1 - xs.length = 1 by omega]
  rfl

theorem old_set0 {w : World} {T : Nat} {x v : Value} (h : w.cell? ⟨T, 0, none⟩ = some x) : (w.setCell ⟨T, 1, none⟩ v).cell? ⟨T, 0, none⟩ = some x := by simp [go_sem, h]
theorem old_set1 {w : World} {T : Nat} {x v : Value} (h : w.cell? ⟨T, 1, none⟩ = some x) : (w.setCell ⟨T, 1, none⟩ v).cell? ⟨T, 1, none⟩ = some v := by simp [go_sem, h]
theorem wd_owns {w : World} {base n c : Nat} {ao : Option Addr} {xs : List Nat} (h : w.ownsRow base 25 1 (.slice ao n c) n (wv xs)) : Wd w ao xs := by
  intro hl
  have hlen : (wv xs).length = n * 1 := h.1
  rw [length_wv] at hlen
  have hh := h
  obtain ⟨_, ⟨e, _⟩ | ⟨g, cap, cur, e, _⟩⟩ := h
  · simp only [Value.slice.injEq] at e; omega
  · simp only [Value.slice.injEq] at e
    obtain ⟨rfl, _, rfl⟩ := e
    exact (owns_c hh).1.wd hl

theorem AppS.drew {w wx : World} {m n : Nat} {xs : List Nat} {T : Nat} {co : Option Addr} {cc : Nat} (h : AppS w wx m n xs T co cc) : AppS w wx.drew m n xs T co cc := by
  obtain ⟨a, b, c, d, e, f, g⟩ := h
  exact ⟨a, b, c, d, e, f, g.drew⟩
set_option maxHeartbeats 4000000 in
theorem refapp_ok (ao : Option Addr) (xs : List Nat) (cap : Nat) (y m n : Nat) (w : World) (hx : Wd w ao xs) (hf : Fit xs) (hk : chk (m : Int) xs = true) (hn : n ≤ 64) (hN : m + n ≤ 1048576) :
    Calls Try.prog 9 #[.agg #[.int .i64 m, .slice ao xs.length cap], .int .u64 y, .int .i64 n] w fun e w' => ∃ bo dap, e = .returned (.tuple #[.agg #[.int .i64 ((m : Int) + n), .slice bo (apS xs y m n n).length dap], .int .i64 0]) ∧ Wd w' bo (apS xs y m n n) ∧ (apS xs y m n n).length ≤ dap ∧ Below w.heap.size w w' := by
  obtain ⟨hc0, hc1, hc2, _⟩ := chk_out m xs hk
  have K : ∀ o o', Wd ((w.alloc o).alloc o') ao xs := fun o o' => hx.keep ((below_alloc w o).alloc (by simp) o')
  have hl2 : xs.length ≤ 16384 := by omega
  have HL : Hid ((xs.length : Int) = ((m : Int) + 63) / 64) := hc2
  have hN2 : (m : Int) + (n : Int) ≤ 1048576 := by omega
  have d1 : decide ((n : Int) < 0) = false := by simp
  have d2 : decide (64 < (n : Int)) = false := by simp; omega
  have hs : IntKind.i64.wrap ((m : Int) + (n : Int)) = (m : Int) + (n : Int) := wraps_i64 _ (by omega) (by omega)
  obtain ⟨i0, hi, hz0, hz1, hz2⟩ := info_parts Try.info25
  clear hc2
  go_enter Try.func9, Try.ntmps9
  go_wp2_with fail
  refine (refcheck_c _ _ _ _ _ (K _ _) hf).mono ?_
  rintro e w1 ⟨rfl, hb⟩
  have KK := box2_cells rfl hb
  clear hb K
  obtain ⟨⟨k0, k1⟩, ⟨k2, k3⟩, ⟨k4, k5⟩, hz, hw⟩ := KK
  have hz0' : w.heap.size < w1.heap.size := by omega
  have hx1 : Wd w1 ao xs := hx.keep hw
  have ne1 : ¬ w.heap.size = w1.heap.size := by omega
  have ne2 : ¬ w.heap.size = w1.heap.size + 1 := by omega
  go_upto_region 3 with fail
  go_cut [8] (fun t8 wx => ∃ T co cc, t8 = .pointer (some ⟨T, 0, none⟩) ∧ AppS w wx m n xs T co cc)
  case first =>
    go_region_held3 (fun w' => w'.cell? ⟨w.heap.size, 0, none⟩ = some (.int .i64 m) ∧ w'.cell? ⟨w.heap.size, 1, none⟩ = some (.slice ao xs.length cap)) (first | exact ⟨set2_cell q0 (by omega), set2_cell q1 (by omega)⟩ | exact ⟨old_alloc q0 ne4, old_alloc q1 ne4⟩ | exact ⟨q0, q1⟩ | go_keep)
      (first | (refine step_append_u (w := (w1.alloc (.cells #[] 25)).drew) (by rfl) _ _ _ (by rfl) w1.heap.size 25 i0 (.int .u64 0) 8 Try.underlying22 hi hz0 hz1 hz2 rfl (.slice (some ⟨w1.heap.size, 0, none⟩) 0 0) 0 [] (by rfl) (owns_empty w1 w1.heap.size (Nat.le_refl _)) ao xs.length cap (wv xs) (by rfl) (length_wv xs) (src_wd (hx1.keep (show Below w1.heap.size w1 (w1.alloc (.cells #[] 25)).drew by repeat (first | exact Below.refl _ _ | apply Below.drew | refine Below.alloc ?_ (by simp) _)))) (one_wv xs) (by unfold maxLen; omega) (by omega) (by show w1.heap.size ≤ (w1.alloc (.cells #[] 25)).heap.size; first | (simp; done) | (simp; omega)) ?_; intro co cc w2 hown hcc hB0 hblk hkeep hsz; rw [Nat.zero_add, List.nil_append] at hown; rw [Nat.zero_add] at hcc hblk; have hB : Below w1.heap.size w1 w2 := Below.trans (show Below w1.heap.size w1 (w1.alloc (.cells #[] 25)).drew by repeat (first | exact Below.refl _ _ | apply Below.drew | refine Below.alloc ?_ (by simp) _)) hB0; have tn : ∀ k, (Value.slice co xs.length cc).ownBlock = some k → k < w2.heap.size := (fun k hk => (hblk k hk).2); have q0 := (hB.cell (p := ⟨w.heap.size, 0, none⟩) hz0').trans k0; have q1 := (hB.cell (p := ⟨w.heap.size, 1, none⟩) hz0').trans k1; have q2 := (hB.cell (p := ⟨w.heap.size + 1, 0, none⟩) hz).trans k2; have q3 := (hB.cell (p := ⟨w.heap.size + 1, 1, none⟩) hz).trans k3; have q4 := (hB.frozen (p := ⟨w.heap.size + 1, 0, none⟩) hz).trans k4; have q5 := (hB.frozen (p := ⟨w.heap.size + 1, 1, none⟩) hz).trans k5; have hw2 := hw.trans (hB.mono (by omega)); have sz2 := hB.size; have ne3 : ¬ w.heap.size = w2.heap.size := (by omega); have ne4 : w.heap.size < w2.heap.size := (by omega); clear hkeep hblk hsz hB0) | (refine step_append_u (w := ((w1.alloc (.cells #[] 25)).alloc (.cells #[.int .i64 0, .slice none 0 0] 24)).drew) (by rfl) _ _ _ (by rfl) w1.heap.size 25 i0 (.int .u64 0) 8 Try.underlying22 hi hz0 hz1 hz2 rfl (.slice (some ⟨w1.heap.size, 0, none⟩) 0 0) 0 [] (by rfl) ((owns_empty w1 w1.heap.size (Nat.le_refl _)).alloc _) ao xs.length cap (wv xs) (by rfl) (length_wv xs) (src_wd (hx1.keep (show Below w1.heap.size w1 ((w1.alloc (.cells #[] 25)).alloc (.cells #[.int .i64 0, .slice none 0 0] 24)).drew by repeat (first | exact Below.refl _ _ | apply Below.drew | refine Below.alloc ?_ (by simp) _)))) (one_wv xs) (by unfold maxLen; omega) (by omega) (by show w1.heap.size ≤ ((w1.alloc (.cells #[] 25)).alloc (.cells #[.int .i64 0, .slice none 0 0] 24)).heap.size; first | (simp; done) | (simp; omega)) ?_; intro co cc w2 hown hcc hB0 hblk hkeep hsz; rw [Nat.zero_add, List.nil_append] at hown; rw [Nat.zero_add] at hcc hblk; have hB : Below w1.heap.size w1 w2 := Below.trans (show Below w1.heap.size w1 ((w1.alloc (.cells #[] 25)).alloc (.cells #[.int .i64 0, .slice none 0 0] 24)).drew by repeat (first | exact Below.refl _ _ | apply Below.drew | refine Below.alloc ?_ (by simp) _)) hB0; have t0 : w2.cell? ⟨w1.heap.size + 1, 0, none⟩ = some (.int .i64 0) := (World.cell?_of_block (w := ((w1.alloc (.cells #[] 25)).alloc (.cells #[.int .i64 0, .slice none 0 0] 24)).drew) (hkeep (w1.heap.size + 1) (by first | (simp; done) | (simp; omega)) (by simp [Value.ownBlock]))).trans (by simp); have t1 : w2.cell? ⟨w1.heap.size + 1, 1, none⟩ = some (.slice none 0 0) := (World.cell?_of_block (w := ((w1.alloc (.cells #[] 25)).alloc (.cells #[.int .i64 0, .slice none 0 0] 24)).drew) (hkeep (w1.heap.size + 1) (by first | (simp; done) | (simp; omega)) (by simp [Value.ownBlock]))).trans (by simp); have t2 : w2.frozen? ⟨w1.heap.size + 1, 0, none⟩ = false := (World.frozen?_of_block (w := ((w1.alloc (.cells #[] 25)).alloc (.cells #[.int .i64 0, .slice none 0 0] 24)).drew) (hkeep (w1.heap.size + 1) (by first | (simp; done) | (simp; omega)) (by simp [Value.ownBlock]))).trans (by simp); have t3 : w2.frozen? ⟨w1.heap.size + 1, 1, none⟩ = false := (World.frozen?_of_block (w := ((w1.alloc (.cells #[] 25)).alloc (.cells #[.int .i64 0, .slice none 0 0] 24)).drew) (hkeep (w1.heap.size + 1) (by first | (simp; done) | (simp; omega)) (by simp [Value.ownBlock]))).trans (by simp); have tl : w1.heap.size + 1 < w2.heap.size := Nat.lt_of_lt_of_le (show w1.heap.size + 1 < ((w1.alloc (.cells #[] 25)).alloc (.cells #[.int .i64 0, .slice none 0 0] 24)).drew.heap.size by first | (simp; done) | (simp; omega)) hsz; have tn : ∀ k, (Value.slice co xs.length cc).ownBlock = some k → k ≠ w1.heap.size + 1 := (fun k hk => by have h := (hblk k hk).1; simp [Value.ownBlock] at h; omega); have q0 := (hB.cell (p := ⟨w.heap.size, 0, none⟩) hz0').trans k0; have q1 := (hB.cell (p := ⟨w.heap.size, 1, none⟩) hz0').trans k1; have q2 := (hB.cell (p := ⟨w.heap.size + 1, 0, none⟩) hz).trans k2; have q3 := (hB.cell (p := ⟨w.heap.size + 1, 1, none⟩) hz).trans k3; have q4 := (hB.frozen (p := ⟨w.heap.size + 1, 0, none⟩) hz).trans k4; have q5 := (hB.frozen (p := ⟨w.heap.size + 1, 1, none⟩) hz).trans k5; have hw2 := hw.trans (hB.mono (by omega)); have sz2 := hB.size; have ne3 : ¬ w.heap.size = w2.heap.size := (by omega); have ne4 : w.heap.size < w2.heap.size := (by omega); clear hkeep hblk hsz hB0) | (refine step_append_u (w := ((w1.alloc (.cells #[.int .i64 0, .slice none 0 0] 24)).alloc (.cells #[] 25)).drew) (by rfl) _ _ _ (by rfl) w1.heap.size 25 i0 (.int .u64 0) 8 Try.underlying22 hi hz0 hz1 hz2 rfl (.slice (some ⟨w1.heap.size + 1, 0, none⟩) 0 0) 0 [] (by rfl) (owns_empty2 w1 (.cells #[.int .i64 0, .slice none 0 0] 24) w1.heap.size (Nat.le_succ _)) ao xs.length cap (wv xs) (by rfl) (length_wv xs) (src_wd (hx1.keep (show Below w1.heap.size w1 ((w1.alloc (.cells #[.int .i64 0, .slice none 0 0] 24)).alloc (.cells #[] 25)).drew by repeat (first | exact Below.refl _ _ | apply Below.drew | refine Below.alloc ?_ (by simp) _)))) (one_wv xs) (by unfold maxLen; omega) (by omega) (by show w1.heap.size ≤ ((w1.alloc (.cells #[.int .i64 0, .slice none 0 0] 24)).alloc (.cells #[] 25)).heap.size; first | (simp; done) | (simp; omega)) ?_; intro co cc w2 hown hcc hB0 hblk hkeep hsz; rw [Nat.zero_add, List.nil_append] at hown; rw [Nat.zero_add] at hcc hblk; have hB : Below w1.heap.size w1 w2 := Below.trans (show Below w1.heap.size w1 ((w1.alloc (.cells #[.int .i64 0, .slice none 0 0] 24)).alloc (.cells #[] 25)).drew by repeat (first | exact Below.refl _ _ | apply Below.drew | refine Below.alloc ?_ (by simp) _)) hB0; have t0 : w2.cell? ⟨w1.heap.size, 0, none⟩ = some (.int .i64 0) := (World.cell?_of_block (w := ((w1.alloc (.cells #[.int .i64 0, .slice none 0 0] 24)).alloc (.cells #[] 25)).drew) (hkeep (w1.heap.size) (by first | (simp; done) | (simp; omega)) (by simp [Value.ownBlock]))).trans (by simp); have t1 : w2.cell? ⟨w1.heap.size, 1, none⟩ = some (.slice none 0 0) := (World.cell?_of_block (w := ((w1.alloc (.cells #[.int .i64 0, .slice none 0 0] 24)).alloc (.cells #[] 25)).drew) (hkeep (w1.heap.size) (by first | (simp; done) | (simp; omega)) (by simp [Value.ownBlock]))).trans (by simp); have t2 : w2.frozen? ⟨w1.heap.size, 0, none⟩ = false := (World.frozen?_of_block (w := ((w1.alloc (.cells #[.int .i64 0, .slice none 0 0] 24)).alloc (.cells #[] 25)).drew) (hkeep (w1.heap.size) (by first | (simp; done) | (simp; omega)) (by simp [Value.ownBlock]))).trans (by simp); have t3 : w2.frozen? ⟨w1.heap.size, 1, none⟩ = false := (World.frozen?_of_block (w := ((w1.alloc (.cells #[.int .i64 0, .slice none 0 0] 24)).alloc (.cells #[] 25)).drew) (hkeep (w1.heap.size) (by first | (simp; done) | (simp; omega)) (by simp [Value.ownBlock]))).trans (by simp); have tl : w1.heap.size < w2.heap.size := Nat.lt_of_lt_of_le (show w1.heap.size < ((w1.alloc (.cells #[.int .i64 0, .slice none 0 0] 24)).alloc (.cells #[] 25)).drew.heap.size by first | (simp; done) | (simp; omega)) hsz; have tn : ∀ k, (Value.slice co xs.length cc).ownBlock = some k → k ≠ w1.heap.size := (fun k hk => by have h := (hblk k hk).1; simp [Value.ownBlock] at h; omega); have q0 := (hB.cell (p := ⟨w.heap.size, 0, none⟩) hz0').trans k0; have q1 := (hB.cell (p := ⟨w.heap.size, 1, none⟩) hz0').trans k1; have q2 := (hB.cell (p := ⟨w.heap.size + 1, 0, none⟩) hz).trans k2; have q3 := (hB.cell (p := ⟨w.heap.size + 1, 1, none⟩) hz).trans k3; have q4 := (hB.frozen (p := ⟨w.heap.size + 1, 0, none⟩) hz).trans k4; have q5 := (hB.frozen (p := ⟨w.heap.size + 1, 1, none⟩) hz).trans k5; have hw2 := hw.trans (hB.mono (by omega)); have sz2 := hB.size; have ne3 : ¬ w.heap.size = w2.heap.size := (by omega); have ne4 : w.heap.size < w2.heap.size := (by omega); clear hkeep hblk hsz hB0))
    · have bw := below_alloc w2 (.cells #[.int .i64 ((m : Int) + n), .slice co xs.length cc] 24)
      have hWW : Below w.heap.size w (w2.alloc (.cells #[.int .i64 ((m : Int) + n), .slice co xs.length cc] 24)) := hw2.trans (bw.mono (by omega))
      go_wp2
      go_meet
      refine ⟨w2.heap.size, co, cc, rfl, ⟨by simp, by simp, by simp, by simp, by omega⟩, (bw.cell (p := ⟨w.heap.size, 0, none⟩) (show w.heap.size < w2.heap.size by omega)).trans q0, ⟨(bw.cell (p := ⟨w.heap.size + 1, 0, none⟩) (show w.heap.size + 1 < w2.heap.size by omega)).trans q2, (bw.cell (p := ⟨w.heap.size + 1, 1, none⟩) (show w.heap.size + 1 < w2.heap.size by omega)).trans q3, (bw.frozen (p := ⟨w.heap.size + 1, 0, none⟩) (show w.heap.size + 1 < w2.heap.size by omega)).trans q4, (bw.frozen (p := ⟨w.heap.size + 1, 1, none⟩) (show w.heap.size + 1 < w2.heap.size by omega)).trans q5⟩, owns_base (hown.alloc _) (by omega), hcc, fun k hk => by have := tn k hk; omega, hWW⟩
    · have tt := ((Turned.refl (w1.heap.size + 1) w2).set 0 (.int .i64 ((m : Int) + n))).set 1 (.slice co xs.length cc)
      have v0 : ((w2.setCell ⟨w1.heap.size + 1, 0, none⟩ (.int .i64 ((m : Int) + n))).setCell ⟨w1.heap.size + 1, 1, none⟩ (.slice co xs.length cc)).cell? ⟨w1.heap.size + 1, 0, none⟩ = some (.int .i64 ((m : Int) + n)) := by simp [go_sem, t0]
      have v1 : ((w2.setCell ⟨w1.heap.size + 1, 0, none⟩ (.int .i64 ((m : Int) + n))).setCell ⟨w1.heap.size + 1, 1, none⟩ (.slice co xs.length cc)).cell? ⟨w1.heap.size + 1, 1, none⟩ = some (.slice co xs.length cc) := by simp [go_sem, t1]
      have v2 : ((w2.setCell ⟨w1.heap.size + 1, 0, none⟩ (.int .i64 ((m : Int) + n))).setCell ⟨w1.heap.size + 1, 1, none⟩ (.slice co xs.length cc)).frozen? ⟨w1.heap.size + 1, 1, none⟩ = false := by simp [go_sem, t3]
      go_wp2
      go_meet
      refine ⟨w1.heap.size + 1, co, cc, rfl, ⟨v0, v1, v2, by rw [tt.size]; exact tl, by omega⟩, (tt.cell (p := ⟨w.heap.size, 0, none⟩) (show w.heap.size ≠ w1.heap.size + 1 by omega)).trans q0, ⟨(tt.cell (p := ⟨w.heap.size + 1, 0, none⟩) (show w.heap.size + 1 ≠ w1.heap.size + 1 by omega)).trans q2, (tt.cell (p := ⟨w.heap.size + 1, 1, none⟩) (show w.heap.size + 1 ≠ w1.heap.size + 1 by omega)).trans q3, (tt.frozen (p := ⟨w.heap.size + 1, 0, none⟩) (show w.heap.size + 1 ≠ w1.heap.size + 1 by omega)).trans q4, (tt.frozen (p := ⟨w.heap.size + 1, 1, none⟩) (show w.heap.size + 1 ≠ w1.heap.size + 1 by omega)).trans q5⟩, owns_base (owns_turned hown tt tn) (by omega), hcc, tn, hw2.trans (tt.below (B := w.heap.size) (by omega))⟩
    · have tt := ((Turned.refl (w1.heap.size) w2).set 0 (.int .i64 ((m : Int) + n))).set 1 (.slice co xs.length cc)
      have v0 : ((w2.setCell ⟨w1.heap.size, 0, none⟩ (.int .i64 ((m : Int) + n))).setCell ⟨w1.heap.size, 1, none⟩ (.slice co xs.length cc)).cell? ⟨w1.heap.size, 0, none⟩ = some (.int .i64 ((m : Int) + n)) := by simp [go_sem, t0]
      have v1 : ((w2.setCell ⟨w1.heap.size, 0, none⟩ (.int .i64 ((m : Int) + n))).setCell ⟨w1.heap.size, 1, none⟩ (.slice co xs.length cc)).cell? ⟨w1.heap.size, 1, none⟩ = some (.slice co xs.length cc) := by simp [go_sem, t1]
      have v2 : ((w2.setCell ⟨w1.heap.size, 0, none⟩ (.int .i64 ((m : Int) + n))).setCell ⟨w1.heap.size, 1, none⟩ (.slice co xs.length cc)).frozen? ⟨w1.heap.size, 1, none⟩ = false := by simp [go_sem, t3]
      go_wp2
      go_meet
      refine ⟨w1.heap.size, co, cc, rfl, ⟨v0, v1, v2, by rw [tt.size]; exact tl, by omega⟩, (tt.cell (p := ⟨w.heap.size, 0, none⟩) (show w.heap.size ≠ w1.heap.size by omega)).trans q0, ⟨(tt.cell (p := ⟨w.heap.size + 1, 0, none⟩) (show w.heap.size + 1 ≠ w1.heap.size by omega)).trans q2, (tt.cell (p := ⟨w.heap.size + 1, 1, none⟩) (show w.heap.size + 1 ≠ w1.heap.size by omega)).trans q3, (tt.frozen (p := ⟨w.heap.size + 1, 0, none⟩) (show w.heap.size + 1 ≠ w1.heap.size by omega)).trans q4, (tt.frozen (p := ⟨w.heap.size + 1, 1, none⟩) (show w.heap.size + 1 ≠ w1.heap.size by omega)).trans q5⟩, owns_base (owns_turned hown tt tn) (by omega), hcc, tn, hw2.trans (tt.below (B := w.heap.size) (by omega))⟩
  case rest =>
    obtain ⟨T, co, cc, rfl, ⟨s0, s1, s1f, hT, hTw⟩, r0, ⟨s2, s3, s4, s5⟩, own, hcc, hne, hwc⟩ := hcut
    clear k0 k1 k2 k3 k4 k5 hx1 ne1 ne2 hz hz0'
    go_upto_block 0 with fail
    go_cut [] (fun wx => ∃ co cc, AppS w wx m n (cp xs ((m + n + 63) / 64)) T co cc)
    case first =>
      by_cases hkk : (m + n + 63) / 64 = xs.length
      · have hw1 : ((m : Int) + n + 63) / 64 = (xs.length : Int) := by omega
        go_wp2
        refine wp_loop_rounds 1 ?_
        rw [rounds_succ]
        go_wp2
        go_region_held3 (fun w' => w'.cell? ⟨T, 0, none⟩ = some (.int .i64 ((m : Int) + n)) ∧ w'.cell? ⟨T, 1, none⟩ = some (.slice co xs.length cc)) (go_keep) (first | (go_at_call 26; refine (refwords_c _ (by omega) (by omega) _).mono ?_; rintro e w' ⟨rfl, rfl⟩))
        go_wp2
        go_meet
        refine ⟨co, cc, ?_⟩
        rw [hkk, cp_self]
        exact AppS.drew ⟨⟨s0, s1, s1f, hT, hTw⟩, r0, ⟨s2, s3, s4, s5⟩, own, hcc, hne, hwc⟩
      · have hk1 : (m + n + 63) / 64 = xs.length + 1 := by have := HL.out; omega
        have hw1 : ((m : Int) + n + 63) / 64 = (xs.length : Int) + 1 := by omega
        have hTz : T ≠ wc.heap.size := by omega
        go_wp2
        refine wp_loop_rounds 2 ?_
        rw [rounds_succ]
        go_wp2
        go_region_held3 (fun w' => w'.cell? ⟨T, 0, none⟩ = some (.int .i64 ((m : Int) + n)) ∧ w'.cell? ⟨T, 1, none⟩ = some (.slice co xs.length cc)) (go_keep) (first | (go_at_call 26; refine (refwords_c _ (by omega) (by omega) _).mono ?_; rintro e w' ⟨rfl, rfl⟩))
        go_wp2_with (at_builtin; refine wpList_append_lies _ rfl _ _ _ rfl (w.heap.size + 2) 25 i0 (.int .u64 0) 1 8 Try.underlying22 hi hz0 hz1 hz2 rfl (by decide) (.slice co xs.length cc) xs.length (wv xs) rfl (own.alloc _) ⟨wc.heap.size, 0, none⟩ 1 1 [.int .u64 0] rfl rfl ?c1 ?c2 (by decide) ?c3 ?c4 ?c5 (wc.heap.size + 1) (by simp) ?_)
        case c1 =>
          intro j u hj
          match j, hj with
          | 0, hj => simp at hj; subst hj; simp [Addr.add]
        case c2 => intro u hu; simp at hu; subst hu; rfl
        case c3 => unfold maxLen; omega
        case c4 => omega
        case c5 => simp; omega
        intro g capg w3 hown3 hgrow hat hlt3
        have hk0 : ∀ k, (Value.slice co xs.length cc).ownBlock = some k → w.heap.size + 2 ≤ k ∧ k < wc.heap.size := fun k hk => own.lt k hk
        have gT : g ≠ T := by
          rcases hat with h | h
          · exact hne g h
          · omega
        have gw : w.heap.size + 2 ≤ g := by
          rcases hat with h | h
          · exact (hk0 g h).1
          · omega
        have hcap3 : xs.length + 1 ≤ capg := owns_cap hown3
        have hBa : Below wc.heap.size wc (wc.drew.alloc (.cells #[.int .u64 0] 25)) := (Below.drew (Below.refl _ _)).alloc (Nat.le_refl _) _
        have far : ∀ k, k < wc.heap.size → (Value.slice co xs.length cc).ownBlock ≠ some k → w3.heap[k]? = wc.heap[k]? := fun k hk hne => (hgrow.block k (by simp; omega) (fun q => hne q.symm)).trans (hBa.block k hk)
        have farT := far T hT (fun q => hne T q rfl)
        have farA := far w.heap.size (by omega) (fun q => by have := (hk0 _ q).1; omega)
        have farB := far (w.heap.size + 1) (by omega) (fun q => by have := (hk0 _ q).1; omega)
        have hwc3 : Below w.heap.size w w3 := hwc.trans ⟨hgrow.os, hgrow.tape, hgrow.output, Nat.le_trans (by simp) hgrow.size, fun k hk => far k (by omega) (fun q => by have := (hk0 _ q).1; omega)⟩
        have e0 := (World.cell?_of_block (w := wc) (a := ⟨T, 0, none⟩) farT).trans s0
        have e1 := (World.cell?_of_block (w := wc) (a := ⟨T, 1, none⟩) farT).trans s1
        have e1f := (World.frozen?_of_block (w := wc) (a := ⟨T, 1, none⟩) farT).trans s1f
        have er := (World.cell?_of_block (w := wc) (a := ⟨w.heap.size, 0, none⟩) farA).trans r0
        have e2 := (World.cell?_of_block (w := wc) (a := ⟨w.heap.size + 1, 0, none⟩) farB).trans s2
        have e3 := (World.cell?_of_block (w := wc) (a := ⟨w.heap.size + 1, 1, none⟩) farB).trans s3
        have e4 := (World.frozen?_of_block (w := wc) (a := ⟨w.heap.size + 1, 0, none⟩) farB).trans s4
        have e5 := (World.frozen?_of_block (w := wc) (a := ⟨w.heap.size + 1, 1, none⟩) farB).trans s5
        rw [wv_snoc] at hown3
        have T3 : T < w3.heap.size := Nat.lt_of_lt_of_le (show T < wc.drew.heap.size + 1 by show T < wc.heap.size + 1; omega) (by have := hgrow.size; simpa using this)
        have HO : Hid (w3.ownsRow (w.heap.size + 2) 25 1 (.slice (some ⟨g, 0, none⟩) (xs.length + 1) capg) (xs.length + 1) (wv (cp xs (xs.length + 1)))) := hown3
        have FIN : Hid (AppS w (w3.setCell ⟨T, 1, none⟩ (.slice (some ⟨g, 0, none⟩) (xs.length + 1) capg)) m n (cp xs (xs.length + 1)) T (some ⟨g, 0, none⟩) capg) := by
          have tt := (Turned.refl T w3).set 1 (.slice (some ⟨g, 0, none⟩) (xs.length + 1) capg)
          have gne : ∀ k, (Value.slice (some ⟨g, 0, none⟩) (xs.length + 1) capg).ownBlock = some k → k ≠ T := fun k hk => by simp only [Value.ownBlock, Option.some.injEq] at hk; omega
          unfold AppS
          rw [length_cp]
          refine ⟨⟨old_set0 e0, old_set1 e1, by simp [go_sem, e1f], by rw [tt.size]; exact T3, hTw⟩, (tt.cell (p := ⟨w.heap.size, 0, none⟩) (show w.heap.size ≠ T by omega)).trans er, ⟨(tt.cell (p := ⟨w.heap.size + 1, 0, none⟩) (show w.heap.size + 1 ≠ T by omega)).trans e2, (tt.cell (p := ⟨w.heap.size + 1, 1, none⟩) (show w.heap.size + 1 ≠ T by omega)).trans e3, (tt.frozen (p := ⟨w.heap.size + 1, 0, none⟩) (show w.heap.size + 1 ≠ T by omega)).trans e4, (tt.frozen (p := ⟨w.heap.size + 1, 1, none⟩) (show w.heap.size + 1 ≠ T by omega)).trans e5⟩, owns_turned HO.out tt gne, hcap3, gne, hwc3.trans (tt.below (B := w.heap.size) (by omega))⟩
        have s0' := FIN.out.1.1
        have s1' := FIN.out.1.2.1
        rw [length_cp] at s1'
        clear hown3 hgrow hat far farT farA farB hBa own hne s0 s1 s1f r0 s2 s3 s4 s5 hk0 hwc hi hz0 hz1 hz2 HO er e2 e3 e4 e5 e0 hcap3 gw gT hTw
        go_wp2
        rw [rounds_succ]
        go_wp2
        go_region_held3 (fun w' => w'.cell? ⟨T, 0, none⟩ = some (.int .i64 ((m : Int) + n)) ∧ w'.cell? ⟨T, 1, none⟩ = some (.slice (some ⟨g, 0, none⟩) (xs.length + 1) capg)) (first | exact ⟨s0', s1'⟩ | go_keep) (first | (go_at_call 26; refine (refwords_c _ (by omega) (by omega) _).mono ?_; rintro e w' ⟨rfl, rfl⟩))
        go_wp2
        go_meet
        refine ⟨some ⟨g, 0, none⟩, capg, ?_⟩
        rw [hk1]
        exact FIN.out.drew
    case rest =>
      clear s0 s1 s1f hT hTw r0 s2 s3 s4 s5 own hcc hne hwc
      obtain ⟨co, cc, A⟩ := hcut
      obtain ⟨⟨s0, s1, s1f, hT, hTw⟩, r0, ⟨s2, s3, s4, s5⟩, own, hcc, hne, hwc⟩ := A
      rw [length_cp] at s1 own hcc hne
      obtain ⟨k, hkk⟩ : ∃ k, k = (m + n + 63) / 64 := ⟨_, rfl⟩
      rw [← hkk] at s1 own hcc hne
      have HKK : Hid (k = (m + n + 63) / 64) := hkk
      by_cases hn0 : (0 : Int) < (n : Int)
      · obtain ⟨g, hg⟩ : ∃ g, co = some ⟨g, 0, none⟩ := by
          obtain ⟨_, ⟨e, e0⟩ | ⟨g, cap', cur, e, _⟩⟩ := own
          · omega
          · simp only [Value.slice.injEq] at e; exact ⟨g, e.1⟩
        subst hg
        have gT := hne g rfl
        have gw := (own.lt g rfl).1
        have OWN : OwnC wc g (apS xs y m n 0) := by
          rw [← apS_zero xs y m n k hf hk hkk]
          exact (owns_c own).1
        clear own hne hi hz0 hz1 hz2 hkk
        go_wp2
        go_loopw [9] (fun i wr => ∃ q : Nat, q ≤ n ∧ i = .int .i64 q ∧ OwnC wr g (apS xs y m n q) ∧ (wr.cell? ⟨T, 0, none⟩ = some (.int .i64 ((m : Int) + n)) ∧ wr.cell? ⟨T, 1, none⟩ = some (.slice (some ⟨g, 0, none⟩) k cc)) ∧ wr.cell? ⟨w.heap.size, 0, none⟩ = some (.int .i64 m) ∧ (wr.cell? ⟨w.heap.size + 1, 0, none⟩ = some (.int .i64 0) ∧ wr.cell? ⟨w.heap.size + 1, 1, none⟩ = some (.slice none 0 0) ∧ wr.frozen? ⟨w.heap.size + 1, 0, none⟩ = false ∧ wr.frozen? ⟨w.heap.size + 1, 1, none⟩ = false) ∧ Below w.heap.size w wr) (fun i _ => n - (intOf i).toNat)
        case atStart => exact ⟨0, Nat.zero_le _, rfl, OWN, ⟨s0, s1⟩, r0, ⟨s2, s3, s4, s5⟩, hwc⟩
        case round =>
          clear s0 s1 s1f r0 s2 s3 s4 s5 OWN hwc
          obtain ⟨q, hq, rfl, hO, ⟨a0, a1⟩, a2, ⟨a3, a4, a5, a6⟩, hwr⟩ := hrel
          by_cases hlt : q < n
          · have hlt2 : (q : Int) < (n : Int) := by omega
            have q64 : q < 64 := by omega
            have HQ : Hid ((m + q) / 64 < k) := by have := HKK.out; unfold Hid; omega
            have HLN : Hid ((apS xs y m n q).length = k) := by unfold Hid; rw [length_apS]; exact HKK.out.symm
            go_wp2_with fail
            refine (refputC_c (apS xs y m n q) k g cc (m + q) _ _ _ HLN.out (by omega) hO (by omega) (fit_apS _ _ _ _ _) HQ.out).mono ?_
            rintro e w5 ⟨rfl, hO5, hT5⟩
            rw [app_bit, apS_step xs y m n q hlt hN] at hO5
            have b0 := (hT5.cell (p := ⟨T, 0, none⟩) (show T ≠ g by omega)).trans a0
            have b1 := (hT5.cell (p := ⟨T, 1, none⟩) (show T ≠ g by omega)).trans a1
            have b2 := (hT5.cell (p := ⟨w.heap.size, 0, none⟩) (show w.heap.size ≠ g by omega)).trans a2
            have b3 := (hT5.cell (p := ⟨w.heap.size + 1, 0, none⟩) (show w.heap.size + 1 ≠ g by omega)).trans a3
            have b4 := (hT5.cell (p := ⟨w.heap.size + 1, 1, none⟩) (show w.heap.size + 1 ≠ g by omega)).trans a4
            have b5 := (hT5.frozen (p := ⟨w.heap.size + 1, 0, none⟩) (show w.heap.size + 1 ≠ g by omega)).trans a5
            have b6 := (hT5.frozen (p := ⟨w.heap.size + 1, 1, none⟩) (show w.heap.size + 1 ≠ g by omega)).trans a6
            have hw5 := hwr.trans (hT5.below (B := w.heap.size) (by omega))
            clear hT5 a0 a1 a2 a3 a4 a5 a6 hwr hO
            go_wp2
            exact ⟨⟨q + 1, by omega, by go_num, hO5, ⟨b0, b1⟩, b2, ⟨b3, b4, b5, b6⟩, hw5⟩, by simp only [intOf]; omega⟩
          · have hqn : q = n := by omega
            rw [hqn] at hO
            clear hqn
            go_wp2
            refine bodyPost_ret (v := .tuple #[.agg #[.int .i64 ((m : Int) + n), .slice (some ⟨g, 0, none⟩) k cc], .int .i64 0]) (by simp [results, Try.results9, go_sem, a3, a4]) rfl ⟨some ⟨g, 0, none⟩, cc, by rw [length_apS, ← HKK.out], ?_, by rw [length_apS, ← HKK.out]; exact hcc, ?_⟩
            · exact ((hO.set_other (show g ≠ w.heap.size + 1 by omega) _).set_other (show g ≠ w.heap.size + 1 by omega) _).wd
            · exact (hwr.setCell (show w.heap.size ≤ w.heap.size + 1 by omega) _).setCell (show w.heap.size ≤ w.heap.size + 1 by omega) _
      · have hn1 : ¬ (0 : Int) < (n : Int) := hn0
        have hz : n = 0 := by omega
        have HR : Hid (apS xs y m n n = cp xs k) := by
          unfold Hid
          rw [show apS xs y m n n = apS xs y m n 0 by rw [hz], ← apS_zero xs y m n k hf hk hkk]
        have HRl : Hid ((apS xs y m n n).length = k) := by unfold Hid; rw [length_apS]; exact hkk.symm
        have hown := owns_turned own (((Turned.refl (w.heap.size + 1) wc).set 0 (.int .i64 ((m : Int) + n))).set 1 (.slice co k cc)) (fun j hj => by have := (own.lt j hj).1; omega)
        have HOW : Hid (Wd _ co (cp xs k)) := wd_owns hown
        clear hz own hi hz0 hz1 hz2 hkk hown
        go_wp2
        refine wp_loop_rounds 1 ?_
        rw [rounds_succ]
        go_wp2
        refine bodyPost_ret (v := .tuple #[.agg #[.int .i64 ((m : Int) + n), .slice co k cc], .int .i64 0]) (by simp [results, Try.results9, go_sem, s2, s3]) rfl ⟨co, cc, by rw [HRl.out], ?_, by rw [HRl.out]; exact hcc, ?_⟩
        · rw [HR.out]; exact HOW.out
        · exact (hwc.setCell (show w.heap.size ≤ w.heap.size + 1 by omega) _).setCell (show w.heap.size ≤ w.heap.size + 1 by omega) _
end Go.Proofs.Ytjilehaokignoaa
