/-
  The contracts of the document's List and Put, whatever is handed in.
-/
import Derived.Test.YtjilehaokignoaaDoorRm2
import Derived.Test.YtjilehaokignoaaDoorPt
namespace Go.Proofs.YtjilehaokignoaaDoor
open Go.RowKit Num Bit
set_option maxRecDepth 100000
set_option linter.unusedVariables false

theorem reflist_c (N W M : Int) (ao : Option Addr) (xs : List Nat) (cap : Nat) (w : World) (hx : Wd w ao xs) (hf : Fit xs) :
    Calls Tryd.prog 22 #[.agg #[.int .i64 N, .int .i64 W, .int .i64 M, .slice ao xs.length cap]] w fun e w' => ∃ bo dap, e = .returned (.slice bo (ilL N W M xs).length dap) ∧ Wd w' bo (ilL N W M xs) ∧ Below w.heap.size w w' := by
  cases hk : ichk N W M xs with
  | true =>
    obtain ⟨a1, a2, a3, a4, a5, a6, a7, a8⟩ := ichk_out N W M xs hk
    obtain ⟨m, rfl⟩ := Int.eq_ofNat_of_zero_le (show 0 ≤ W by omega)
    obtain ⟨n, rfl⟩ := Int.eq_ofNat_of_zero_le a3
    have e : ilL n m M xs = (List.range n).map (numAt m xs) := by unfold ilL; rw [if_pos hk, Int.toNat_natCast, Int.toNat_natCast]
    have el : ((List.range n).map (numAt m xs)).length = n := by simp
    refine (reflist_ok M n m ao xs cap w hx hf hk).mono ?_
    rintro e w' ⟨v, rfl, hown, hb⟩
    rw [e, el]
    rcases Nat.eq_zero_or_pos n with h0 | h0
    · subst h0
      obtain ⟨_, ⟨rfl, _⟩ | ⟨g, c, cur, rfl, _⟩⟩ := hown
      · exact ⟨none, 0, rfl, fun h => absurd h (by simp), hb⟩
      · exact ⟨some ⟨g, 0, none⟩, c, rfl, fun h => absurd h (by simp), hb⟩
    · obtain ⟨g, c, rfl, _, _, _, hO⟩ := owns_c hown h0
      exact ⟨some ⟨g, 0, none⟩, c, rfl, hO.wd, hb⟩
  | false =>
    have e : ilL N W M xs = [] := by unfold ilL; rw [if_neg (by simp [hk])]
    have K : ∀ o, Wd (w.alloc o) ao xs := fun o => hx.keep (below_alloc w o)
    rw [e]
    clear e
    by_cases hN : 0 < N
    · have d : decide (0 < N) = true := by simpa using hN
      go_enter Tryd.func22, Tryd.ntmps22
      go_wp2
      refine wp_loop_rounds 1 ?_
      rw [rounds_succ]
      go_wp2_with (go_at_call 20; refine (irefcheck_c _ _ _ _ _ _ _ (K _) hf).mono ?_; rintro e w' ⟨rfl, hb⟩; have KK := Box4.new hb; clear hb; obtain ⟨⟨hz, c0, c1, c2, c3⟩, hw⟩ := KK)
      go_ret
      exact ⟨none, 0, rfl, fun h => absurd h (by simp), by assumption⟩
    · have d : decide (0 < N) = false := by simpa using hN
      go_enter Tryd.func22, Tryd.ntmps22
      go_wp2
      refine wp_loop_rounds 1 ?_
      rw [rounds_succ]
      go_wp2
      go_ret
      exact ⟨none, 0, rfl, fun h => absurd h (by simp), below_alloc w _⟩

theorem Wd.set4n {w : World} {ao : Option Addr} {xs : List Nat} {T : Nat} {p q r s : Value} (h : Wd w ao xs) (hn : ∀ a, ao = some a → a.block ≠ T) : Wd ((((w.setCell ⟨T, 0, none⟩ p).setCell ⟨T, 1, none⟩ q).setCell ⟨T, 2, none⟩ r).setCell ⟨T, 3, none⟩ s) ao xs :=
  (((h.set_other (a := ⟨T, 0, none⟩) hn p).set_other (a := ⟨T, 1, none⟩) hn q).set_other (a := ⟨T, 2, none⟩) hn r).set_other (a := ⟨T, 3, none⟩) hn s
theorem Wd.set4w {w0 w : World} {ao : Option Addr} {xs : List Nat} {T : Nat} {p q r s : Value} (h0 : Wd w0 ao xs) (h : Wd w ao xs) (hT : w0.heap.size ≤ T) : Wd ((((w.setCell ⟨T, 0, none⟩ p).setCell ⟨T, 1, none⟩ q).setCell ⟨T, 2, none⟩ r).setCell ⟨T, 3, none⟩ s) ao xs := by
  intro hi
  obtain ⟨b, off, e, hlt, _⟩ := h0 hi
  exact (h.set4n (fun a ha => by rw [e] at ha; cases ha; show b ≠ T; omega)) hi

theorem reffits_t (v W : Int) (h0 : 0 ≤ v) (h1 : v < 18446744073709551616) (h : lenI v ≤ W) (w : World) :
    Calls Tryd.prog 35 #[.int .u64 v, .int .i64 W] w fun e w' => e = .returned (.bool true) ∧ w' = w := by
  have k := reffits_c v W h0 h1 w
  rw [show decide (lenI v ≤ W) = true by simpa using h] at k
  exact k
theorem reffits_f (v W : Int) (h0 : 0 ≤ v) (h1 : v < 18446744073709551616) (h : W < lenI v) (w : World) :
    Calls Tryd.prog 35 #[.int .u64 v, .int .i64 W] w fun e w' => e = .returned (.bool false) ∧ w' = w := by
  have k := reffits_c v W h0 h1 w
  rw [show decide (lenI v ≤ W) = false by simpa using h] at k
  exact k

/-- What List answers, with one number turned, made again: the row with that number put. -/
theorem put_make (M : Int) (n m : Nat) (xs : List Nat) (hk : ichk (n : Int) (m : Int) M xs = true) (i v : Nat) (hi : i < n) (hl : lenI v ≤ (m : Int)) :
    imE (m : Int) (((List.range n).map (numAt m xs)).set i v) = 0 ∧ imL (m : Int) (((List.range n).map (numAt m xs)).set i v) = ipL n m M xs i v ∧ imN (m : Int) (((List.range n).map (numAt m xs)).set i v) = n ∧ imW (m : Int) (((List.range n).map (numAt m xs)).set i v) = m ∧ imM (m : Int) (((List.range n).map (numAt m xs)).set i v) = M := by
  obtain ⟨a1, a2, a3, a4, a5, a6, a7, a8⟩ := ichk_out n m M xs hk
  have ln : (((List.range n).map (numAt m xs)).set i v).length = n := by simp
  have hg : ∀ j, j < n → gt (((List.range n).map (numAt m xs)).set i v) j = if i = j then v else numAt m xs j := by
    intro j hj
    rw [gt_set _ _ _ _ (by simpa using hi), gt_map _ _ _ hj]
  have hE : imE (m : Int) (((List.range n).map (numAt m xs)).set i v) = 0 := by
    unfold imE
    rw [if_neg, ]
    rintro (h | h | h | h)
    · omega
    · omega
    · rw [ln] at h; omega
    · refine h fun j hj => ?_
      rw [ln] at hj
      rw [hg j hj]
      by_cases e : i = j
      · rw [if_pos e]; exact hl
      · rw [if_neg e]; exact (lenI_fit _ _).2 (numOf_lt m _)
  have hp : ipE n m M xs i v = 0 := by
    unfold ipE
    rw [if_pos (igE_of n m M xs i hk (by omega) (by omega)), if_neg (by omega)]
  have hM : M.toNat = n * m := by
    rw [← a4, ← Int.natCast_mul, Int.toNat_natCast]
  refine ⟨hE, ?_, by unfold imN; rw [if_pos hE, ln], by unfold imW; rw [if_pos hE], by unfold imM; rw [if_pos hE, ln]; exact a4⟩
  unfold imL ipL mkS
  rw [if_pos hE, if_pos hp, Int.toNat_natCast, Int.toNat_natCast, ln, hM]
  refine rowOf_congr _ _ _ fun j hj => ?_
  have hmp : 0 < m := by omega
  have hjd : j / m < n := (Nat.div_lt_iff_lt_mul hmp).2 hj
  have hdm := Nat.div_add_mod j m
  have hml := Nat.mod_lt j hmp
  rw [hg _ hjd]
  simp only [hj, decide_true, Bool.true_and]
  by_cases e : i = j / m
  · have e2 : i * m = m * (j / m) := by rw [e, Nat.mul_comm]
    rw [if_pos e, if_pos (by omega)]
    congr 1
    omega
  · rw [if_neg e, if_neg]
    · unfold numAt
      rw [testBit_numOf, Nat.mul_comm (j / m) m, hdm]
      simp [hml]
    · rintro ⟨h1, h2⟩
      exact e (Nat.div_eq_of_lt_le h1 (by rw [Nat.add_mul, Nat.one_mul]; exact h2)).symm

set_option maxHeartbeats 2000000 in
theorem refput3_ok (M : Int) (n m : Nat) (ao : Option Addr) (xs : List Nat) (cap i v : Nat) (w : World) (hx : Wd w ao xs) (hf : Fit xs) (hv : v < 18446744073709551616) (hE : ipE n m M xs i v = 0) :
    Calls Tryd.prog 16 #[.agg #[.int .i64 n, .int .i64 m, .int .i64 M, .slice ao xs.length cap], .int .i64 i, .int .u64 v] w fun e w' => ∃ bo dap, e = .returned (.tuple #[.agg #[.int .i64 n, .int .i64 m, .int .i64 M, .slice bo (ipL n m M xs i v).length dap], .int .i64 0]) ∧ Wd w' bo (ipL n m M xs i v) ∧ Below w.heap.size w w' := by
  obtain ⟨g0, l0⟩ := ipE_zero n m M xs i v hE
  obtain ⟨hk, i0, i1⟩ := igE_zero n m M xs i g0
  obtain ⟨a1, a2, a3, a4, a5, a6, a7, a8⟩ := ichk_out n m M xs hk
  have hi : i < n := by omega
  have hn : n ≤ 1048576 := by omega
  have PM := put_make M n m xs hk i v hi l0
  have FT : Hid (∀ w0 : World, Calls Tryd.prog 35 #[.int .u64 v, .int .i64 m] w0 fun e w' => e = .returned (.bool true) ∧ w' = w0) := fun w0 => reffits_t _ _ (Int.natCast_nonneg v) (by omega) l0 w0
  have K : ∀ o o', Wd ((w.alloc o).alloc o') ao xs := fun o o' => hx.keep ((below_alloc w o).alloc (by simp) o')
  obtain ⟨L, hL⟩ : ∃ L, L = (List.range n).map (numAt m xs) := ⟨_, rfl⟩
  have RL : Hid (∀ w0 : World, Wd w0 ao xs → Calls Tryd.prog 22 #[.agg #[.int .i64 n, .int .i64 m, .int .i64 M, .slice ao xs.length cap]] w0 fun e w' => ∃ g c, e = .returned (.slice (some ⟨g, 0, none⟩) n c) ∧ w0.heap.size ≤ g ∧ OwnC w' g L ∧ Below w0.heap.size w0 w') := by
    intro w0 h0
    refine (reflist_ok M n m ao xs cap w0 h0 hf hk).mono ?_
    rintro e w' ⟨u, rfl, hown, hb⟩
    obtain ⟨g, c, rfl, hg, _, _, hO⟩ := owns_c hown (by omega)
    exact ⟨g, c, rfl, hg, by rw [hL]; exact hO, hb⟩
  have hLn : L.length = n := by rw [hL]; simp
  have hLf : Fit (L.set i v) := fit_set L (by rw [hL]; exact fit_map _ _ (fun j => numAt_lt m (by omega) xs j)) i v hv
  rw [← hL] at PM
  obtain ⟨pE, pL, pN, pW, pM⟩ := PM
  have MK : Hid (∀ (w0 : World) (g c : Nat), Wd w0 (some ⟨g, 0, none⟩) (L.set i v) → Calls Tryd.prog 17 #[.int .i64 m, .slice (some ⟨g, 0, none⟩) n c] w0 fun e w' => ∃ bo dap, e = .returned (.tuple #[.agg #[.int .i64 n, .int .i64 m, .int .i64 M, .slice bo (ipL n m M xs i v).length dap], .int .i64 0]) ∧ OutF w0 w' bo (ipL n m M xs i v) dap) := by
    intro w0 g c h0
    have h := refmake_c m (some ⟨g, 0, none⟩) (L.set i v) c w0 h0 hLf (by rw [List.length_set]; omega)
    rw [pE, pL, pN, pW, pM, List.length_set, hLn] at h
    exact h
  clear hE g0 l0 a4 a5 pE pL pN pW pM hL hv
  go_enter Tryd.func16, Tryd.ntmps16
  go_wp2_with fail
  refine (irefcheck_c _ _ _ _ _ _ _ (K _ _) hf).mono ?_
  rintro e w1 ⟨rfl, hb⟩
  obtain ⟨P, hw⟩ := PB.new rfl hb
  clear hb K
  have k0 := P.k0
  have k1 := P.k1
  have k2 := P.k2
  have k3 := P.k3
  have plt := P.lt
  have plt2 : w.heap.size < w1.heap.size := by omega
  go_wp2_with fail
  refine (FT.out _).mono ?_
  rintro e w' ⟨rfl, hw'⟩
  subst hw'
  go_wp2_with fail
  refine (RL.out _ (hx.keep hw)).mono ?_
  rintro e w2 ⟨g, c, rfl, hg, hO, hb⟩
  replace P := P.keep hb
  have sz2 := hb.size
  have hw2 := hw.trans (hb.mono hw.size)
  have hc1 := hO.cell i (by rw [hLn]; exact hi)
  have hf1 := hO.frozen i
  have HO : Hid (OwnC w2 g L) := hO
  have hi3 : (i : Int) < (n : Int) := by omega
  clear hb k0 k1 k2 k3 hO hw
  have k1 := P.k1
  have hgne : w.heap.size ≠ g := by omega
  go_wp2_with fail
  have tt := (Turned.refl g w2).set i (.int .u64 v)
  have hO3 := HO.out.set i v (by rw [hLn]; exact hi)
  replace P : PB w _ _ _ _ _ := P.keepB (fun p hp => tt.cell (by omega)) (fun p hp => tt.frozen (by omega)) (by rw [tt.size]; exact Nat.le_refl _)
  have hw3 := hw2.trans (tt.below (B := w.heap.size) (by omega))
  refine (MK.out _ g c hO3.wd).mono ?_
  rintro e w4 ⟨bo, dap, rfl, hX, hF, hC, hN, hb⟩
  replace P := P.keep hb
  have hw4 := hw3.trans (hb.mono hw3.size)
  have hN' : ∀ a, bo = some a → a.block ≠ w.heap.size + 1 := fun a ha => by have := hN a ha; have := tt.size; omega
  have HX : Hid (Wd w4 bo (ipL n m M xs i v)) := hX
  clear hb hw3 tt hO3 HO hc1 hf1 hX k1 hw2
  obtain ⟨k0, k1, k2, k3, m0, m1, m2, m3, f0, f1, f2, f3, hz⟩ := P
  go_wp2
  refine bodyPost_ret (v := .tuple #[.agg #[.int .i64 n, .int .i64 m, .int .i64 M, .slice bo (ipL n m M xs i v).length dap], .int .i64 0]) (by simp [results, Tryd.results16, go_sem, m0, m1, m2, m3]) rfl ⟨bo, dap, rfl, ?_, ?_⟩
  · exact HX.out.set4n hN'
  · exact (((hw4.setCell (by simp) _).setCell (by simp) _).setCell (by simp) _).setCell (by simp) _

set_option maxHeartbeats 2000000 in
theorem refput3_bad (N W M : Int) (ao : Option Addr) (xs : List Nat) (cap : Nat) (i : Int) (v : Nat) (w : World) (hx : Wd w ao xs) (hf : Fit xs) (hv : v < 18446744073709551616) (hE : ipE N W M xs i v ≠ 0) :
    Calls Tryd.prog 16 #[.agg #[.int .i64 N, .int .i64 W, .int .i64 M, .slice ao xs.length cap], .int .i64 i, .int .u64 v] w fun e w' => e = .returned (.tuple #[.agg #[.int .i64 N, .int .i64 W, .int .i64 M, .slice ao xs.length cap], .int .i64 (ipE N W M xs i v)]) ∧ Wd w' ao xs ∧ Below w.heap.size w w' := by
  have K : ∀ o o', Wd ((w.alloc o).alloc o') ao xs := fun o o' => hx.keep ((below_alloc w o).alloc (by simp) o')
  cases hk : ichk N W M xs with
  | false =>
    have R : ipE N W M xs i v = 2 := by
      have : igE N W M xs i = 2 := by unfold igE; rw [if_pos hk]
      unfold ipE; rw [if_neg (by omega), this]
    rw [R]
    clear hE R hv
    go_enter Tryd.func16, Tryd.ntmps16
    go_wp2_with fail
    refine (irefcheck_c _ _ _ _ _ _ _ (K _ _) hf).mono ?_
    rintro e w1 ⟨rfl, hb⟩
    obtain ⟨P, hw⟩ := PB.new rfl hb
    clear hb K
    obtain ⟨k0, k1, k2, k3, m0, m1, m2, m3, f0, f1, f2, f3, hz⟩ := P
    have hz' : w.heap.size < w1.heap.size := by omega
    go_wp2
    refine bodyPost_ret (v := .tuple #[.agg #[.int .i64 N, .int .i64 W, .int .i64 M, .slice ao xs.length cap], .int .i64 2]) (by simp [results, Tryd.results16, go_sem, m0, m1, m2, m3]) rfl ⟨rfl, ?_, ?_⟩
    · exact hx.set4w (hx.keep hw) (by omega)
    · exact (((hw.setCell (by simp) _).setCell (by simp) _).setCell (by simp) _).setCell (by simp) _
  | true =>
    by_cases hi : i < 0 ∨ N ≤ i
    · have R : ipE N W M xs i v = 3 := by
        have : igE N W M xs i = 3 := by unfold igE; rw [if_neg (by simp [hk]), if_pos hi]
        unfold ipE; rw [if_neg (by omega), this]
      rw [R]
      clear hE R
      by_cases i0 : i < 0
      · clear hi
        go_enter Tryd.func16, Tryd.ntmps16
        go_wp2_with fail
        refine (irefcheck_c _ _ _ _ _ _ _ (K _ _) hf).mono ?_
        rintro e w1 ⟨rfl, hb⟩
        obtain ⟨P, hw⟩ := PB.new rfl hb
        clear hb K
        obtain ⟨k0, k1, k2, k3, m0, m1, m2, m3, f0, f1, f2, f3, hz⟩ := P
        have hz' : w.heap.size < w1.heap.size := by omega
        go_wp2
        refine bodyPost_ret (v := .tuple #[.agg #[.int .i64 N, .int .i64 W, .int .i64 M, .slice ao xs.length cap], .int .i64 3]) (by simp [results, Tryd.results16, go_sem, m0, m1, m2, m3]) rfl ⟨rfl, ?_, ?_⟩
        · exact hx.set4w (hx.keep hw) (by omega)
        · exact (((hw.setCell (by simp) _).setCell (by simp) _).setCell (by simp) _).setCell (by simp) _
      · have i1 : N ≤ i := by omega
        clear hi
        go_enter Tryd.func16, Tryd.ntmps16
        go_wp2_with fail
        refine (irefcheck_c _ _ _ _ _ _ _ (K _ _) hf).mono ?_
        rintro e w1 ⟨rfl, hb⟩
        obtain ⟨P, hw⟩ := PB.new rfl hb
        clear hb K
        obtain ⟨k0, k1, k2, k3, m0, m1, m2, m3, f0, f1, f2, f3, hz⟩ := P
        have hz' : w.heap.size < w1.heap.size := by omega
        go_wp2
        refine bodyPost_ret (v := .tuple #[.agg #[.int .i64 N, .int .i64 W, .int .i64 M, .slice ao xs.length cap], .int .i64 3]) (by simp [results, Tryd.results16, go_sem, m0, m1, m2, m3]) rfl ⟨rfl, ?_, ?_⟩
        · exact hx.set4w (hx.keep hw) (by omega)
        · exact (((hw.setCell (by simp) _).setCell (by simp) _).setCell (by simp) _).setCell (by simp) _
    · have hg := igE_of N W M xs i hk (by omega) (by omega)
      have hl : W < lenI v := by
        unfold ipE at hE
        rw [if_pos hg] at hE
        by_cases h : W < lenI v
        · exact h
        · rw [if_neg h] at hE; exact absurd rfl hE
      have R : ipE N W M xs i v = 2 := by unfold ipE; rw [if_pos hg, if_pos hl]
      rw [R]
      have FT : Hid (∀ w0 : World, Calls Tryd.prog 35 #[.int .u64 v, .int .i64 W] w0 fun e w' => e = .returned (.bool false) ∧ w' = w0) := fun w0 => reffits_f _ _ (Int.natCast_nonneg v) (by omega) hl w0
      have i0 : 0 ≤ i := by omega
      have i1 : i < N := by omega
      clear hE R hi hg hl hv
      go_enter Tryd.func16, Tryd.ntmps16
      go_wp2_with fail
      refine (irefcheck_c _ _ _ _ _ _ _ (K _ _) hf).mono ?_
      rintro e w1 ⟨rfl, hb⟩
      obtain ⟨P, hw⟩ := PB.new rfl hb
      clear hb K
      obtain ⟨k0, k1, k2, k3, m0, m1, m2, m3, f0, f1, f2, f3, hz⟩ := P
      have hz' : w.heap.size < w1.heap.size := by omega
      go_wp2_with fail
      refine (FT.out _).mono ?_
      rintro e w' ⟨rfl, hw'⟩
      subst hw'
      go_wp2
      refine bodyPost_ret (v := .tuple #[.agg #[.int .i64 N, .int .i64 W, .int .i64 M, .slice ao xs.length cap], .int .i64 2]) (by simp [results, Tryd.results16, go_sem, m0, m1, m2, m3]) rfl ⟨rfl, ?_, ?_⟩
      · exact hx.set4w (hx.keep hw) (by omega)
      · exact (((hw.setCell (by simp) _).setCell (by simp) _).setCell (by simp) _).setCell (by simp) _

theorem refput3_c (N W M : Int) (ao : Option Addr) (xs : List Nat) (cap : Nat) (i : Int) (v : Nat) (w : World) (hx : Wd w ao xs) (hf : Fit xs) (hv : v < 18446744073709551616) :
    Calls Tryd.prog 16 #[.agg #[.int .i64 N, .int .i64 W, .int .i64 M, .slice ao xs.length cap], .int .i64 i, .int .u64 v] w fun e w' => ∃ bo dap, e = .returned (.tuple #[.agg #[.int .i64 N, .int .i64 W, .int .i64 M, .slice bo (ipL N W M xs i v).length dap], .int .i64 (ipE N W M xs i v)]) ∧ Wd w' bo (ipL N W M xs i v) ∧ Below w.heap.size w w' := by
  by_cases hE : ipE N W M xs i v = 0
  · obtain ⟨g0, l0⟩ := ipE_zero N W M xs i v hE
    obtain ⟨hk, i0, i1⟩ := igE_zero N W M xs i g0
    obtain ⟨a1, a2, a3, a4, a5, a6, a7, a8⟩ := ichk_out N W M xs hk
    obtain ⟨m, rfl⟩ := Int.eq_ofNat_of_zero_le (show 0 ≤ W by omega)
    obtain ⟨n, rfl⟩ := Int.eq_ofNat_of_zero_le a3
    obtain ⟨k, rfl⟩ := Int.eq_ofNat_of_zero_le i0
    rw [hE]
    exact refput3_ok M n m ao xs cap k v w hx hf hv hE
  · have e : ipL N W M xs i v = xs := by unfold ipL; rw [if_neg hE]
    refine (refput3_bad N W M ao xs cap i v w hx hf hv hE).mono ?_
    rintro e w' ⟨rfl, hX, hb⟩
    rw [e]
    exact ⟨ao, cap, rfl, hX, hb⟩
end Go.Proofs.YtjilehaokignoaaDoor
