/-
  The contract of the document's Set.
-/
import Derived.Test.YtjilehaokignoaaOwnC
namespace Go.Proofs.Ytjilehaokignoaa
open Go.RowKit Num Bit

theorem news_wd {w : World} {b off : Nat} {xs : List Nat} (hc : ∀ i, i < xs.length → w.cell? ⟨b, off + i, none⟩ = some (.int .u64 (gt xs i))) : ∀ j u, (wv xs)[j]? = some u → w.cell? ((⟨b, off, none⟩ : Addr).add j) = some u := by
  intro j u hj
  have hjl : j < xs.length := by
    have := (List.getElem?_eq_some_iff.1 hj).1
    rwa [length_wv] at this
  rw [wv, List.getElem?_map, gt_get xs j hjl] at hj
  simp only [Option.map_some, Option.some.injEq] at hj
  rw [← hj, ← hc j hjl]
  unfold Addr.add
  split
  · subst_vars; rfl
  · rfl
theorem one_wv (xs : List Nat) : ∀ u ∈ wv xs, u.oneCell' = true := by
  intro u hu
  obtain ⟨a, _, rfl⟩ := List.mem_map.1 hu
  rfl
theorem owns_empty (w : World) (base : Nat) (hb : base ≤ w.heap.size) : (w.alloc (.cells #[] 25)).ownsRow base 25 1 (.slice (some ⟨w.heap.size, 0, none⟩) 0 0) 0 [] := by
  refine ⟨by simp, .inr ⟨w.heap.size, 0, #[], rfl, hb, ?_, by simp, by simp, by simp, by simp⟩⟩
  exact heap_alloc_new w _

theorem owns_empty2 (w : World) (o : Obj) (base : Nat) (hb : base ≤ w.heap.size + 1) : ((w.alloc o).alloc (.cells #[] 25)).ownsRow base 25 1 (.slice (some ⟨w.heap.size + 1, 0, none⟩) 0 0) 0 [] := by
  have h := owns_empty (w.alloc o) base (by simpa using hb)
  rw [show (w.alloc o).heap.size = w.heap.size + 1 by simp] at h
  exact h

theorem owns_cap {w : World} {base g n cap : Nat} {vs : List Value} (h : w.ownsRow base 25 1 (.slice (some ⟨g, 0, none⟩) n cap) n vs) : n ≤ cap := by
  obtain ⟨_, h | ⟨g', cap', cur, e, _, hh, hle, _, hs, ht⟩⟩ := h
  · simp at h
  · simp only [Value.slice.injEq] at e
    omega

theorem set2_cell {w : World} {b o t : Nat} {x u v : Value} (h : w.cell? ⟨b, o, none⟩ = some x) (hne : b ≠ t) : ((w.setCell ⟨t, 0, none⟩ u).setCell ⟨t, 1, none⟩ v).cell? ⟨b, o, none⟩ = some x :=
  (((Turned.refl t w).set 0 u).set 1 v).cell (p := ⟨b, o, none⟩) hne |>.trans h
theorem old_alloc {w : World} {b o : Nat} {x : Value} {ob : Obj} (h : w.cell? ⟨b, o, none⟩ = some x) (hlt : b < w.heap.size) : (w.alloc ob).cell? ⟨b, o, none⟩ = some x :=
  ((below_alloc w ob).cell (p := ⟨b, o, none⟩) hlt).trans h

set_option maxHeartbeats 4000000 in
theorem refset_ok (N : Int) (ao : Option Addr) (xs : List Nat) (cap : Nat) (n : Nat) (x : Bool) (w : World) (hx : Wd w ao xs) (hf : Fit xs) (hk : chk N xs = true) (hn : (n : Int) < N) :
    Calls Try.prog 7 #[.agg #[.int .i64 N, .slice ao xs.length cap], .int .i64 n, .bool x] w fun e w' => ∃ g cap', e = .returned (.tuple #[.agg #[.int .i64 N, .slice (some ⟨g, 0, none⟩) xs.length cap'], .int .i64 0]) ∧ OwnC w' g (rputL xs n x) ∧ xs.length ≤ cap' ∧ Below w.heap.size w w' := by
  obtain ⟨hc0, hc1, hc2, _⟩ := chk_out N xs hk
  have K : ∀ o o', Wd ((w.alloc o).alloc o') ao xs := fun o o' => hx.keep ((below_alloc w o).alloc (by simp) o')
  have hl : 0 < xs.length := by omega
  have hl2 : xs.length ≤ 16384 := by omega
  have HN : Hid (n / 64 < xs.length) := by unfold Hid; omega
  have HN2 : Hid (n ≤ 1048576) := by unfold Hid; omega
  obtain ⟨i0, hi, hz0, hz1, hz2⟩ := info_parts Try.info25
  clear hc2
  go_enter Try.func7, Try.ntmps7
  go_wp2_with fail
  refine (refcheck_c _ _ _ _ _ (K _ _) hf).mono ?_
  rintro e w1 ⟨rfl, hb⟩
  have KK := box2_cells rfl hb
  clear hb K
  obtain ⟨⟨k0, k1⟩, ⟨k2, k3⟩, ⟨k4, k5⟩, hz, hw⟩ := KK
  have hz0' : w.heap.size < w1.heap.size := by omega
  obtain ⟨b, off, rfl, hb, hc⟩ := (hx.keep hw) hl
  have HC : Hid (∀ i, i < xs.length → w1.cell? ⟨b, off + i, none⟩ = some (.int .u64 (gt xs i))) := hc
  clear hc
  have ne1 : ¬ w.heap.size = w1.heap.size := by omega
  have ne2 : ¬ w.heap.size = w1.heap.size + 1 := by omega
  go_wp2
  go_region_held3 (fun w' => w'.cell? ⟨w.heap.size, 0, none⟩ = some (.int .i64 N) ∧ w'.cell? ⟨w.heap.size, 1, none⟩ = some (.slice (some ⟨b, off, none⟩) xs.length cap)) (first | exact ⟨set2_cell q0 (by omega), set2_cell q1 (by omega)⟩ | exact ⟨old_alloc q0 ne4, old_alloc q1 ne4⟩ | exact ⟨q0, q1⟩ | go_keep)
    (first | (refine step_append_lies (w1.alloc (.cells #[] 25)).drew (by rfl) _ _ _ (by rfl) w1.heap.size 25 i0 (.int .u64 0) 1 8 Try.underlying22 hi hz0 hz1 hz2 rfl (by decide) (.slice (some ⟨w1.heap.size, 0, none⟩) 0 0) 0 [] (by rfl) (owns_empty w1 w1.heap.size (Nat.le_refl _)) ⟨b, off, none⟩ xs.length cap (wv xs) (by rfl) (by rw [length_wv]; omega) (news_wd (fun i hi => ((show Below w1.heap.size w1 (w1.alloc (.cells #[] 25)).drew by repeat (first | exact Below.refl _ _ | apply Below.drew | refine Below.alloc ?_ (by simp) _)).cell (p := ⟨b, off + i, none⟩) hb).trans (HC.out i hi))) (one_wv xs) hl (by unfold maxLen; omega) (by omega) (by show w1.heap.size ≤ (w1.alloc (.cells #[] 25)).heap.size; first | (simp; done) | (simp; omega)) (w1.heap.size + 1) (by simp) ?_; intro gg capg w2 hown hgrow hat hlt; have hat2 : gg = w1.heap.size ∨ gg = w1.heap.size + 1 := hat.elim (fun h => .inl (by simpa [Value.ownBlock] using h.symm)) .inr; have hB : Below w1.heap.size w1 w2 := Below.grown (show Below w1.heap.size w1 (w1.alloc (.cells #[] 25)).drew by repeat (first | exact Below.refl _ _ | apply Below.drew | refine Below.alloc ?_ (by simp) _)) hgrow (by show w1.heap.size ≤ (w1.alloc (.cells #[] 25)).heap.size; first | (simp; done) | (simp; omega)) (by intro k hk; simp [Value.ownBlock] at hk; omega); rw [Nat.zero_add, List.nil_append] at hown; have hOC := (owns_c hown).1; have hcapg : xs.length ≤ capg := owns_cap hown; have q0 := (hB.cell (p := ⟨w.heap.size, 0, none⟩) hz0').trans k0; have q1 := (hB.cell (p := ⟨w.heap.size, 1, none⟩) hz0').trans k1; have q2 := (hB.cell (p := ⟨w.heap.size + 1, 0, none⟩) hz).trans k2; have q3 := (hB.cell (p := ⟨w.heap.size + 1, 1, none⟩) hz).trans k3; have q4 := (hB.frozen (p := ⟨w.heap.size + 1, 0, none⟩) hz).trans k4; have q5 := (hB.frozen (p := ⟨w.heap.size + 1, 1, none⟩) hz).trans k5; have hw2 := hw.trans (hB.mono (by omega)); have sz2 := hB.size; have ne3 : ¬ w.heap.size = w2.heap.size := (by omega); have ne4 : w.heap.size < w2.heap.size := (by omega); clear hgrow hown hat hB) | (refine step_append_lies ((w1.alloc (.cells #[] 25)).alloc (.cells #[.int .i64 0, .slice none 0 0] 24)).drew (by rfl) _ _ _ (by rfl) w1.heap.size 25 i0 (.int .u64 0) 1 8 Try.underlying22 hi hz0 hz1 hz2 rfl (by decide) (.slice (some ⟨w1.heap.size, 0, none⟩) 0 0) 0 [] (by rfl) ((owns_empty w1 w1.heap.size (Nat.le_refl _)).alloc _) ⟨b, off, none⟩ xs.length cap (wv xs) (by rfl) (by rw [length_wv]; omega) (news_wd (fun i hi => ((show Below w1.heap.size w1 ((w1.alloc (.cells #[] 25)).alloc (.cells #[.int .i64 0, .slice none 0 0] 24)).drew by repeat (first | exact Below.refl _ _ | apply Below.drew | refine Below.alloc ?_ (by simp) _)).cell (p := ⟨b, off + i, none⟩) hb).trans (HC.out i hi))) (one_wv xs) hl (by unfold maxLen; omega) (by omega) (by show w1.heap.size ≤ ((w1.alloc (.cells #[] 25)).alloc (.cells #[.int .i64 0, .slice none 0 0] 24)).heap.size; first | (simp; done) | (simp; omega)) (w1.heap.size + 2) (by simp) ?_; intro gg capg w2 hown hgrow hat hlt; have hat2 : gg = w1.heap.size ∨ gg = w1.heap.size + 2 := hat.elim (fun h => .inl (by simpa [Value.ownBlock] using h.symm)) .inr; have hB : Below w1.heap.size w1 w2 := Below.grown (show Below w1.heap.size w1 ((w1.alloc (.cells #[] 25)).alloc (.cells #[.int .i64 0, .slice none 0 0] 24)).drew by repeat (first | exact Below.refl _ _ | apply Below.drew | refine Below.alloc ?_ (by simp) _)) hgrow (by show w1.heap.size ≤ ((w1.alloc (.cells #[] 25)).alloc (.cells #[.int .i64 0, .slice none 0 0] 24)).heap.size; first | (simp; done) | (simp; omega)) (by intro k hk; simp [Value.ownBlock] at hk; omega); rw [Nat.zero_add, List.nil_append] at hown; have hOC := (owns_c hown).1; have hcapg : xs.length ≤ capg := owns_cap hown; have t0 : w2.cell? ⟨w1.heap.size + 1, 0, none⟩ = some (.int .i64 0) := hgrow.cell (show ((w1.alloc (.cells #[] 25)).alloc (.cells #[.int .i64 0, .slice none 0 0] 24)).drew.cell? ⟨w1.heap.size + 1, 0, none⟩ = some (.int .i64 0) by simp) (by simp [Value.ownBlock]); have t1 : w2.cell? ⟨w1.heap.size + 1, 1, none⟩ = some (.slice none 0 0) := hgrow.cell (show ((w1.alloc (.cells #[] 25)).alloc (.cells #[.int .i64 0, .slice none 0 0] 24)).drew.cell? ⟨w1.heap.size + 1, 1, none⟩ = some (.slice none 0 0) by simp) (by simp [Value.ownBlock]); have t2 : w2.frozen? ⟨w1.heap.size + 1, 0, none⟩ = false := (World.frozen?_of_block (w := ((w1.alloc (.cells #[] 25)).alloc (.cells #[.int .i64 0, .slice none 0 0] 24)).drew) (hgrow.block (w1.heap.size + 1) (by first | (simp; done) | (simp; omega)) (by simp [Value.ownBlock]))).trans (by simp); have t3 : w2.frozen? ⟨w1.heap.size + 1, 1, none⟩ = false := (World.frozen?_of_block (w := ((w1.alloc (.cells #[] 25)).alloc (.cells #[.int .i64 0, .slice none 0 0] 24)).drew) (hgrow.block (w1.heap.size + 1) (by first | (simp; done) | (simp; omega)) (by simp [Value.ownBlock]))).trans (by simp); have tl : w1.heap.size + 1 < w2.heap.size := Nat.lt_of_lt_of_le (show w1.heap.size + 1 < ((w1.alloc (.cells #[] 25)).alloc (.cells #[.int .i64 0, .slice none 0 0] 24)).drew.heap.size by first | (simp; done) | (simp; omega)) hgrow.size; have q0 := (hB.cell (p := ⟨w.heap.size, 0, none⟩) hz0').trans k0; have q1 := (hB.cell (p := ⟨w.heap.size, 1, none⟩) hz0').trans k1; have q2 := (hB.cell (p := ⟨w.heap.size + 1, 0, none⟩) hz).trans k2; have q3 := (hB.cell (p := ⟨w.heap.size + 1, 1, none⟩) hz).trans k3; have q4 := (hB.frozen (p := ⟨w.heap.size + 1, 0, none⟩) hz).trans k4; have q5 := (hB.frozen (p := ⟨w.heap.size + 1, 1, none⟩) hz).trans k5; have hw2 := hw.trans (hB.mono (by omega)); have sz2 := hB.size; have ne3 : ¬ w.heap.size = w2.heap.size := (by omega); have ne4 : w.heap.size < w2.heap.size := (by omega); clear hgrow hown hat hB) | (refine step_append_lies ((w1.alloc (.cells #[.int .i64 0, .slice none 0 0] 24)).alloc (.cells #[] 25)).drew (by rfl) _ _ _ (by rfl) w1.heap.size 25 i0 (.int .u64 0) 1 8 Try.underlying22 hi hz0 hz1 hz2 rfl (by decide) (.slice (some ⟨w1.heap.size + 1, 0, none⟩) 0 0) 0 [] (by rfl) (owns_empty2 w1 (.cells #[.int .i64 0, .slice none 0 0] 24) w1.heap.size (Nat.le_succ _)) ⟨b, off, none⟩ xs.length cap (wv xs) (by rfl) (by rw [length_wv]; omega) (news_wd (fun i hi => ((show Below w1.heap.size w1 ((w1.alloc (.cells #[.int .i64 0, .slice none 0 0] 24)).alloc (.cells #[] 25)).drew by repeat (first | exact Below.refl _ _ | apply Below.drew | refine Below.alloc ?_ (by simp) _)).cell (p := ⟨b, off + i, none⟩) hb).trans (HC.out i hi))) (one_wv xs) hl (by unfold maxLen; omega) (by omega) (by show w1.heap.size ≤ ((w1.alloc (.cells #[.int .i64 0, .slice none 0 0] 24)).alloc (.cells #[] 25)).heap.size; first | (simp; done) | (simp; omega)) (w1.heap.size + 2) (by simp) ?_; intro gg capg w2 hown hgrow hat hlt; have hat2 : gg = w1.heap.size + 1 ∨ gg = w1.heap.size + 2 := hat.elim (fun h => .inl (by simpa [Value.ownBlock] using h.symm)) .inr; have hB : Below w1.heap.size w1 w2 := Below.grown (show Below w1.heap.size w1 ((w1.alloc (.cells #[.int .i64 0, .slice none 0 0] 24)).alloc (.cells #[] 25)).drew by repeat (first | exact Below.refl _ _ | apply Below.drew | refine Below.alloc ?_ (by simp) _)) hgrow (by show w1.heap.size ≤ ((w1.alloc (.cells #[.int .i64 0, .slice none 0 0] 24)).alloc (.cells #[] 25)).heap.size; first | (simp; done) | (simp; omega)) (by intro k hk; simp [Value.ownBlock] at hk; omega); rw [Nat.zero_add, List.nil_append] at hown; have hOC := (owns_c hown).1; have hcapg : xs.length ≤ capg := owns_cap hown; have t0 : w2.cell? ⟨w1.heap.size, 0, none⟩ = some (.int .i64 0) := hgrow.cell (show ((w1.alloc (.cells #[.int .i64 0, .slice none 0 0] 24)).alloc (.cells #[] 25)).drew.cell? ⟨w1.heap.size, 0, none⟩ = some (.int .i64 0) by simp) (by simp [Value.ownBlock]); have t1 : w2.cell? ⟨w1.heap.size, 1, none⟩ = some (.slice none 0 0) := hgrow.cell (show ((w1.alloc (.cells #[.int .i64 0, .slice none 0 0] 24)).alloc (.cells #[] 25)).drew.cell? ⟨w1.heap.size, 1, none⟩ = some (.slice none 0 0) by simp) (by simp [Value.ownBlock]); have t2 : w2.frozen? ⟨w1.heap.size, 0, none⟩ = false := (World.frozen?_of_block (w := ((w1.alloc (.cells #[.int .i64 0, .slice none 0 0] 24)).alloc (.cells #[] 25)).drew) (hgrow.block (w1.heap.size) (by first | (simp; done) | (simp; omega)) (by simp [Value.ownBlock]))).trans (by simp); have t3 : w2.frozen? ⟨w1.heap.size, 1, none⟩ = false := (World.frozen?_of_block (w := ((w1.alloc (.cells #[.int .i64 0, .slice none 0 0] 24)).alloc (.cells #[] 25)).drew) (hgrow.block (w1.heap.size) (by first | (simp; done) | (simp; omega)) (by simp [Value.ownBlock]))).trans (by simp); have tl : w1.heap.size < w2.heap.size := Nat.lt_of_lt_of_le (show w1.heap.size < ((w1.alloc (.cells #[.int .i64 0, .slice none 0 0] 24)).alloc (.cells #[] 25)).drew.heap.size by first | (simp; done) | (simp; omega)) hgrow.size; have q0 := (hB.cell (p := ⟨w.heap.size, 0, none⟩) hz0').trans k0; have q1 := (hB.cell (p := ⟨w.heap.size, 1, none⟩) hz0').trans k1; have q2 := (hB.cell (p := ⟨w.heap.size + 1, 0, none⟩) hz).trans k2; have q3 := (hB.cell (p := ⟨w.heap.size + 1, 1, none⟩) hz).trans k3; have q4 := (hB.frozen (p := ⟨w.heap.size + 1, 0, none⟩) hz).trans k4; have q5 := (hB.frozen (p := ⟨w.heap.size + 1, 1, none⟩) hz).trans k5; have hw2 := hw.trans (hB.mono (by omega)); have sz2 := hB.size; have ne3 : ¬ w.heap.size = w2.heap.size := (by omega); have ne4 : w.heap.size < w2.heap.size := (by omega); clear hgrow hown hat hB))
  · have v0 : (w2.alloc (.cells #[.int .i64 N, .slice (some ⟨gg, 0, none⟩) xs.length capg] 24)).cell? ⟨w2.heap.size, 0, none⟩ = some (.int .i64 N) := by simp
    have v1 : (w2.alloc (.cells #[.int .i64 N, .slice (some ⟨gg, 0, none⟩) xs.length capg] 24)).cell? ⟨w2.heap.size, 1, none⟩ = some (.slice (some ⟨gg, 0, none⟩) xs.length capg) := by simp
    have bw := below_alloc w2 (.cells #[.int .i64 N, .slice (some ⟨gg, 0, none⟩) xs.length capg] 24)
    have hOW := hOC.keep bw
    have gl := hOC.lt
    have r2 := (bw.cell (p := ⟨w.heap.size + 1, 0, none⟩) (show w.heap.size + 1 < w2.heap.size by omega)).trans q2
    have r3 := (bw.cell (p := ⟨w.heap.size + 1, 1, none⟩) (show w.heap.size + 1 < w2.heap.size by omega)).trans q3
    have r4 := (bw.frozen (p := ⟨w.heap.size + 1, 0, none⟩) (show w.heap.size + 1 < w2.heap.size by omega)).trans q4
    have r5 := (bw.frozen (p := ⟨w.heap.size + 1, 1, none⟩) (show w.heap.size + 1 < w2.heap.size by omega)).trans q5
    have hw3 := hw2.trans (bw.mono (by omega))
    go_wp2_with fail
    refine (refputC_c xs xs.length gg capg n _ x _ rfl rfl hOW (by have := HN2.out; omega) hf HN.out).mono ?_
    rintro e w4 ⟨rfl, hO4, hT⟩
    have u0 := (hT.cell (p := ⟨w2.heap.size, 0, none⟩) (show w2.heap.size ≠ gg by omega)).trans v0
    have u1 := (hT.cell (p := ⟨w2.heap.size, 1, none⟩) (show w2.heap.size ≠ gg by omega)).trans v1
    have u2 := (hT.cell (p := ⟨w.heap.size + 1, 0, none⟩) (show w.heap.size + 1 ≠ gg by omega)).trans r2
    have u3 := (hT.cell (p := ⟨w.heap.size + 1, 1, none⟩) (show w.heap.size + 1 ≠ gg by omega)).trans r3
    have u4 := (hT.frozen (p := ⟨w.heap.size + 1, 0, none⟩) (show w.heap.size + 1 ≠ gg by omega)).trans r4
    have u5 := (hT.frozen (p := ⟨w.heap.size + 1, 1, none⟩) (show w.heap.size + 1 ≠ gg by omega)).trans r5
    have hw4 := hw3.trans (hT.below (B := w.heap.size) (by omega))
    clear hT v0 v1 r2 r3 r4 r5 hOW
    go_wp2
    refine bodyPost_ret (v := .tuple #[.agg #[.int .i64 N, .slice (some ⟨gg, 0, none⟩) xs.length capg], .int .i64 0]) (by simp [results, Try.results7, go_sem, u2, u3]) rfl ⟨gg, capg, rfl, ?_, hcapg, ?_⟩
    · exact (hO4.set_other (show gg ≠ w.heap.size + 1 by omega) _).set_other (show gg ≠ w.heap.size + 1 by omega) _
    · exact (hw4.setCell (by simp) _).setCell (by simp) _
  · have tt := ((Turned.refl (w1.heap.size + 1) w2).set 0 (.int .i64 N)).set 1 (.slice (some ⟨gg, 0, none⟩) xs.length capg)
    have v0 : ((w2.setCell ⟨w1.heap.size + 1, 0, none⟩ (.int .i64 N)).setCell ⟨w1.heap.size + 1, 1, none⟩ (.slice (some ⟨gg, 0, none⟩) xs.length capg)).cell? ⟨w1.heap.size + 1, 0, none⟩ = some (.int .i64 N) := by simp [go_sem, t0]
    have v1 : ((w2.setCell ⟨w1.heap.size + 1, 0, none⟩ (.int .i64 N)).setCell ⟨w1.heap.size + 1, 1, none⟩ (.slice (some ⟨gg, 0, none⟩) xs.length capg)).cell? ⟨w1.heap.size + 1, 1, none⟩ = some (.slice (some ⟨gg, 0, none⟩) xs.length capg) := by simp [go_sem, t1]
    have hOW : OwnC ((w2.setCell ⟨w1.heap.size + 1, 0, none⟩ (.int .i64 N)).setCell ⟨w1.heap.size + 1, 1, none⟩ (.slice (some ⟨gg, 0, none⟩) xs.length capg)) gg xs := (hOC.set_other (show gg ≠ w1.heap.size + 1 by omega) _).set_other (show gg ≠ w1.heap.size + 1 by omega) _
    have r2 := (tt.cell (p := ⟨w.heap.size + 1, 0, none⟩) (show w.heap.size + 1 ≠ w1.heap.size + 1 by omega)).trans q2
    have r3 := (tt.cell (p := ⟨w.heap.size + 1, 1, none⟩) (show w.heap.size + 1 ≠ w1.heap.size + 1 by omega)).trans q3
    have r4 := (tt.frozen (p := ⟨w.heap.size + 1, 0, none⟩) (show w.heap.size + 1 ≠ w1.heap.size + 1 by omega)).trans q4
    have r5 := (tt.frozen (p := ⟨w.heap.size + 1, 1, none⟩) (show w.heap.size + 1 ≠ w1.heap.size + 1 by omega)).trans q5
    have hw3 := hw2.trans (tt.below (B := w.heap.size) (show w.heap.size ≤ w1.heap.size + 1 by omega))
    clear tt
    go_wp2_with fail
    refine (refputC_c xs xs.length gg capg n _ x _ rfl rfl hOW (by have := HN2.out; omega) hf HN.out).mono ?_
    rintro e w4 ⟨rfl, hO4, hT⟩
    have u0 := (hT.cell (p := ⟨w1.heap.size + 1, 0, none⟩) (show w1.heap.size + 1 ≠ gg by omega)).trans v0
    have u1 := (hT.cell (p := ⟨w1.heap.size + 1, 1, none⟩) (show w1.heap.size + 1 ≠ gg by omega)).trans v1
    have u2 := (hT.cell (p := ⟨w.heap.size + 1, 0, none⟩) (show w.heap.size + 1 ≠ gg by omega)).trans r2
    have u3 := (hT.cell (p := ⟨w.heap.size + 1, 1, none⟩) (show w.heap.size + 1 ≠ gg by omega)).trans r3
    have u4 := (hT.frozen (p := ⟨w.heap.size + 1, 0, none⟩) (show w.heap.size + 1 ≠ gg by omega)).trans r4
    have u5 := (hT.frozen (p := ⟨w.heap.size + 1, 1, none⟩) (show w.heap.size + 1 ≠ gg by omega)).trans r5
    have hw4 := hw3.trans (hT.below (B := w.heap.size) (by omega))
    clear hT v0 v1 r2 r3 r4 r5 hOW
    go_wp2
    refine bodyPost_ret (v := .tuple #[.agg #[.int .i64 N, .slice (some ⟨gg, 0, none⟩) xs.length capg], .int .i64 0]) (by simp [results, Try.results7, go_sem, u2, u3]) rfl ⟨gg, capg, rfl, ?_, hcapg, ?_⟩
    · exact (hO4.set_other (show gg ≠ w.heap.size + 1 by omega) _).set_other (show gg ≠ w.heap.size + 1 by omega) _
    · exact (hw4.setCell (by simp) _).setCell (by simp) _
  · have tt := ((Turned.refl (w1.heap.size) w2).set 0 (.int .i64 N)).set 1 (.slice (some ⟨gg, 0, none⟩) xs.length capg)
    have v0 : ((w2.setCell ⟨w1.heap.size, 0, none⟩ (.int .i64 N)).setCell ⟨w1.heap.size, 1, none⟩ (.slice (some ⟨gg, 0, none⟩) xs.length capg)).cell? ⟨w1.heap.size, 0, none⟩ = some (.int .i64 N) := by simp [go_sem, t0]
    have v1 : ((w2.setCell ⟨w1.heap.size, 0, none⟩ (.int .i64 N)).setCell ⟨w1.heap.size, 1, none⟩ (.slice (some ⟨gg, 0, none⟩) xs.length capg)).cell? ⟨w1.heap.size, 1, none⟩ = some (.slice (some ⟨gg, 0, none⟩) xs.length capg) := by simp [go_sem, t1]
    have hOW : OwnC ((w2.setCell ⟨w1.heap.size, 0, none⟩ (.int .i64 N)).setCell ⟨w1.heap.size, 1, none⟩ (.slice (some ⟨gg, 0, none⟩) xs.length capg)) gg xs := (hOC.set_other (show gg ≠ w1.heap.size by omega) _).set_other (show gg ≠ w1.heap.size by omega) _
    have r2 := (tt.cell (p := ⟨w.heap.size + 1, 0, none⟩) (show w.heap.size + 1 ≠ w1.heap.size by omega)).trans q2
    have r3 := (tt.cell (p := ⟨w.heap.size + 1, 1, none⟩) (show w.heap.size + 1 ≠ w1.heap.size by omega)).trans q3
    have r4 := (tt.frozen (p := ⟨w.heap.size + 1, 0, none⟩) (show w.heap.size + 1 ≠ w1.heap.size by omega)).trans q4
    have r5 := (tt.frozen (p := ⟨w.heap.size + 1, 1, none⟩) (show w.heap.size + 1 ≠ w1.heap.size by omega)).trans q5
    have hw3 := hw2.trans (tt.below (B := w.heap.size) (show w.heap.size ≤ w1.heap.size by omega))
    clear tt
    go_wp2_with fail
    refine (refputC_c xs xs.length gg capg n _ x _ rfl rfl hOW (by have := HN2.out; omega) hf HN.out).mono ?_
    rintro e w4 ⟨rfl, hO4, hT⟩
    have u0 := (hT.cell (p := ⟨w1.heap.size, 0, none⟩) (show w1.heap.size ≠ gg by omega)).trans v0
    have u1 := (hT.cell (p := ⟨w1.heap.size, 1, none⟩) (show w1.heap.size ≠ gg by omega)).trans v1
    have u2 := (hT.cell (p := ⟨w.heap.size + 1, 0, none⟩) (show w.heap.size + 1 ≠ gg by omega)).trans r2
    have u3 := (hT.cell (p := ⟨w.heap.size + 1, 1, none⟩) (show w.heap.size + 1 ≠ gg by omega)).trans r3
    have u4 := (hT.frozen (p := ⟨w.heap.size + 1, 0, none⟩) (show w.heap.size + 1 ≠ gg by omega)).trans r4
    have u5 := (hT.frozen (p := ⟨w.heap.size + 1, 1, none⟩) (show w.heap.size + 1 ≠ gg by omega)).trans r5
    have hw4 := hw3.trans (hT.below (B := w.heap.size) (by omega))
    clear hT v0 v1 r2 r3 r4 r5 hOW
    go_wp2
    refine bodyPost_ret (v := .tuple #[.agg #[.int .i64 N, .slice (some ⟨gg, 0, none⟩) xs.length capg], .int .i64 0]) (by simp [results, Try.results7, go_sem, u2, u3]) rfl ⟨gg, capg, rfl, ?_, hcapg, ?_⟩
    · exact (hO4.set_other (show gg ≠ w.heap.size + 1 by omega) _).set_other (show gg ≠ w.heap.size + 1 by omega) _
    · exact (hw4.setCell (by simp) _).setCell (by simp) _

theorem refset_bad (N : Int) (ao : Option Addr) (xs : List Nat) (cap : Nat) (i : Int) (x : Bool) (w : World) (hx : Wd w ao xs) (hf : Fit xs) (hE : getE N xs i ≠ 0) :
    Calls Try.prog 7 #[.agg #[.int .i64 N, .slice ao xs.length cap], .int .i64 i, .bool x] w fun e w' => e = .returned (.tuple #[.agg #[.int .i64 N, .slice ao xs.length cap], .int .i64 (getE N xs i)]) ∧ Below w.heap.size w w' := by
  have K : ∀ o o', Wd ((w.alloc o).alloc o') ao xs := fun o o' => hx.keep ((below_alloc w o).alloc (by simp) o')
  cases hk : chk N xs with
  | false =>
    have R : Hid (2 = getE N xs i) := by unfold getE; rw [if_pos hk]; rfl
    clear hE
    go_enter Try.func7, Try.ntmps7
    go_wp2_with fail
    refine (refcheck_c _ _ _ _ _ (K _ _) hf).mono ?_
    rintro e w1 ⟨rfl, hb⟩
    have KK := box2_cells rfl hb
    clear hb K
    obtain ⟨⟨k0, k1⟩, ⟨k2, k3⟩, ⟨k4, k5⟩, hz, hw⟩ := KK
    go_wp2
    refine bodyPost_ret (v := .tuple #[.agg #[.int .i64 N, .slice ao xs.length cap], .int .i64 (2)]) (by simp [results, Try.results7, go_sem, k2, k3]) rfl ⟨?_, (hw.setCell (by simp) _).setCell (by simp) _⟩
    rw [← R.out]
  | true =>
    have hr : i < 0 ∨ N ≤ i := by
      unfold getE at hE
      rw [if_neg (by simp [hk])] at hE
      by_cases h : i < 0 ∨ N ≤ i
      · exact h
      · rw [if_neg h] at hE; exact absurd rfl hE
    have R : Hid (3 = getE N xs i) := by unfold getE; rw [if_neg (by simp [hk]), if_pos hr]; rfl
    clear hE
    by_cases h1 : i < 0
    · clear hr
      go_enter Try.func7, Try.ntmps7
      go_wp2_with fail
      refine (refcheck_c _ _ _ _ _ (K _ _) hf).mono ?_
      rintro e w1 ⟨rfl, hb⟩
      have KK := box2_cells rfl hb
      clear hb K
      obtain ⟨⟨k0, k1⟩, ⟨k2, k3⟩, ⟨k4, k5⟩, hz, hw⟩ := KK
      go_wp2
      refine bodyPost_ret (v := .tuple #[.agg #[.int .i64 N, .slice ao xs.length cap], .int .i64 (3)]) (by simp [results, Try.results7, go_sem, k2, k3]) rfl ⟨?_, (hw.setCell (by simp) _).setCell (by simp) _⟩
      rw [← R.out]
    · have h2 : N ≤ i := by omega
      clear hr
      go_enter Try.func7, Try.ntmps7
      go_wp2_with fail
      refine (refcheck_c _ _ _ _ _ (K _ _) hf).mono ?_
      rintro e w1 ⟨rfl, hb⟩
      have KK := box2_cells rfl hb
      clear hb K
      obtain ⟨⟨k0, k1⟩, ⟨k2, k3⟩, ⟨k4, k5⟩, hz, hw⟩ := KK
      go_wp2
      refine bodyPost_ret (v := .tuple #[.agg #[.int .i64 N, .slice ao xs.length cap], .int .i64 (3)]) (by simp [results, Try.results7, go_sem, k2, k3]) rfl ⟨?_, (hw.setCell (by simp) _).setCell (by simp) _⟩
      rw [← R.out]

theorem refset_c (N : Int) (ao : Option Addr) (xs : List Nat) (cap : Nat) (i : Int) (x : Bool) (w : World) (hx : Wd w ao xs) (hf : Fit xs) (hcap : xs.length ≤ cap) :
    Calls Try.prog 7 #[.agg #[.int .i64 N, .slice ao xs.length cap], .int .i64 i, .bool x] w fun e w' => ∃ bo dap, e = .returned (.tuple #[.agg #[.int .i64 N, .slice bo (setL N xs i x).length dap], .int .i64 (getE N xs i)]) ∧ Out w w' bo (setL N xs i x) dap := by
  by_cases hE : getE N xs i = 0
  · obtain ⟨hk, h0, h1⟩ := getE_zero N xs i hE
    obtain ⟨n, rfl⟩ := Int.eq_ofNat_of_zero_le h0
    refine (refset_ok N ao xs cap n x w hx hf hk h1).mono ?_
    rintro e w' ⟨g, cap', rfl, hO, hc, hb⟩
    have e1 : setL N xs n x = rputL xs n x := by unfold setL; rw [if_pos hE, Int.toNat_natCast, rput_row N xs hf hk n h1 x]
    have e3 : (rputL xs n x).length = xs.length := by unfold rputL; split <;> simp
    rw [e1]
    refine ⟨some ⟨g, 0, none⟩, cap', by rw [e3, hE], hO.wd, ?_, by omega, hb⟩
    rw [rput_row N xs hf hk n h1 x]; exact fit_rowOf _ _
  · refine (refset_bad N ao xs cap i x w hx hf hE).mono ?_
    rintro e w' ⟨rfl, hb⟩
    have e1 : setL N xs i x = xs := by unfold setL; rw [if_neg hE]
    rw [e1]
    exact ⟨ao, cap, rfl, hx.keep hb, hf, hcap, hb⟩
end Go.Proofs.Ytjilehaokignoaa
