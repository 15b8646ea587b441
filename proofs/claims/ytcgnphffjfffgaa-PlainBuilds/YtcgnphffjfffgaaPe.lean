/-
  The contract of the program's count.
-/
import Derived.Test.YtcgnphffjfffgaaPd
namespace Go.Proofs.Ytcgnphffjfffgaa
open Go.RowKit Num Bit
set_option linter.unusedVariables false
set_option linter.unusedSimpArgs false
set_option maxRecDepth 100000

set_option maxHeartbeats 4000000 in
theorem count_c (m : Nat) (ao : Option Addr) (xs : List Nat) (cap : Nat) (so : Option Addr) (su : List Int) (sc : Nat) (tO : Option Addr) (sb : List Int) (tc : Nat) (bit : Bool) (i : Nat) (w : World) (h : PlIn w (m : Int) ao xs cap so su sc tO sb tc) (hp : pchk (m : Int) xs su sb = true) (hi : i ≤ m) :
    Calls Try.prog 33 #[.agg #[.int .i64 (m : Int), .slice ao xs.length cap, .slice so su.length sc, .slice tO sb.length tc], .bool bit, .int .i64 i] w fun e w' => e = .returned (.int .i64 ((cB xs bit i : Nat) : Int)) ∧ Below w.heap.size w w' := by
  obtain ⟨m', e0, hm, hl, hk, hsu, hsb⟩ := pchk_nat _ _ _ _ hp
  obtain rfl : m = m' := by omega
  clear e0
  by_cases h0 : i = 0
  · subst h0
    have R : Hid (cB xs bit 0 = 0) := by show cB xs bit 0 = 0; have := cB_le xs bit 0; omega
    rw [R.out]
    cases bit with
    | true =>
      go_enter Try.func33, Try.ntmps33
      go_wp2
      go_ret
      exact ⟨rfl, below_alloc w _⟩
    | false =>
      go_enter Try.func33, Try.ntmps33
      go_wp2
      go_ret
      exact ⟨rfl, below_alloc w _⟩
  · obtain ⟨j, hj⟩ : ∃ j : Nat, j = (i - 1) / 64 := ⟨_, rfl⟩
    obtain ⟨r, hr⟩ : ∃ r : Nat, r = i - 64 * j := ⟨_, rfl⟩
    have hij : i = 64 * j + r := by omega
    have r0 : 0 < r := by omega
    have r1 : r ≤ 64 := by omega
    have lx : j < xs.length := by omega
    have ls : j / 8 < su.length := by rw [hsu, length_supL, Int.toNat_natCast]; omega
    have lt : j < sb.length := by rw [hsb, length_subL]; exact lx
    have hcnt := count_ok m xs h.f hk hl j r r0 r1 (by omega)
    have eY : gi su (j / 8) = supI (m : Int) xs (j / 8) := by rw [hsu]; unfold supL; rw [gi_supP _ _ _ _ (by rw [Int.toNat_natCast]; omega)]
    have eS : gi sb j = subI (m : Int) xs j := by rw [hsb]; unfold subL; rw [gi_subP _ _ _ _ lx]
    have bY := supI_bound (m : Int) xs (j / 8)
    have bS := subI_bound (m : Int) xs j
    have bR := rank_bounds (gt xs j : Int) (r : Int)
    have bC := cntB_le xs i
    obtain ⟨b1, o1, rfl, hb1, hc1⟩ := h.s (by omega)
    obtain ⟨b2, o2, rfl, hb2, hc2⟩ := h.t (by omega)
    obtain ⟨b3, o3, rfl, hb3, hc3⟩ := h.x (by omega)
    obtain ⟨W, hW⟩ : ∃ W, W = w.alloc (.cells #[.int .i64 (m : Int), .slice (some ⟨b3, o3, none⟩) xs.length cap, .slice (some ⟨b1, o1, none⟩) su.length sc, .slice (some ⟨b2, o2, none⟩) sb.length tc] 29) := ⟨_, rfl⟩
    have bW : Below w.heap.size w W := by rw [hW]; exact below_alloc w _
    have B1 : Cel W w.heap.size [.int .i64 (m : Int), .slice (some ⟨b3, o3, none⟩) xs.length cap, .slice (some ⟨b1, o1, none⟩) su.length sc, .slice (some ⟨b2, o2, none⟩) sb.length tc] 29 := by rw [hW]; exact Cel.new w _ _
    have x1 := B1.cell 1 rfl
    have x2 := B1.cell 2 rfl
    have x3 := B1.cell 3 rfl
    have y1 := (bW.cell (p := ⟨b1, o1 + j / 8, none⟩) hb1).trans (hc1 _ ls)
    have y2 := (bW.cell (p := ⟨b2, o2 + j, none⟩) hb2).trans (hc2 _ lt)
    have y3 := (bW.cell (p := ⟨b3, o3 + j, none⟩) hb3).trans (hc3 _ lx)
    rw [eY] at y1
    rw [eS] at y2
    have hX := h.f j
    obtain ⟨Y, hY⟩ : ∃ Y, Hid (Y = supI (m : Int) xs (j / 8)) := ⟨_, rfl⟩
    obtain ⟨S, hS⟩ : ∃ S, Hid (S = subI (m : Int) xs j) := ⟨_, rfl⟩
    obtain ⟨K, hK⟩ : ∃ K, Hid (K = rankI (gt xs j : Int) (r : Int)) := ⟨_, rfl⟩
    have C : Hid (∀ w0, Calls Try.prog 45 #[.int .u64 (gt xs j : Int), .int .i64 (r : Int)] w0 fun e w' => e = .returned (.int .i64 K) ∧ w' = w0) := by
      intro w0
      have := rank_c (gt xs j : Int) (r : Int) (Int.natCast_nonneg _) (Int.ofNat_lt.2 hX) w0
      rw [hK.out]
      exact this
    rw [← hY.out] at y1 bY hcnt
    rw [← hS.out] at y2 bS hcnt
    rw [← hK.out] at bR hcnt
    rw [← hij] at hcnt
    obtain ⟨c, hc⟩ : ∃ c, c = cntB xs i := ⟨_, rfl⟩
    rw [← hc] at hcnt bC
    have R : Hid (cB xs bit i = if bit then c else i - c) := by show cB xs bit i = _; unfold cB; rw [hc]
    have HB : Hid (Below w.heap.size w W) := bW
    have q1 : ((i : Int) - 1) / 64 = (j : Int) := by omega
    have q8 : (j : Int) / 8 < (su.length : Int) := by omega
    have e8 : ((j : Int) / 8).toNat = j / 8 := by omega
    have w8 : IntKind.i64.wrap ((j : Int) / 8) = (j : Int) / 8 := by rw [IntKind.wrap_i64]; omega
    have p8 : (0 : Int) ≤ (j : Int) / 8 := by omega
    have lt2 : (j : Int) < (sb.length : Int) := by omega
    have lx2 : (j : Int) < (xs.length : Int) := by omega
    have m1 : IntKind.i64.wrap ((j : Int) * 64) = (j : Int) * 64 := by rw [IntKind.wrap_i64]; omega
    have m2 : IntKind.i64.wrap ((i : Int) - (j : Int) * 64) = (r : Int) := by rw [IntKind.wrap_i64]; omega
    have m3 : IntKind.i64.wrap (Y + S) = Y + S := by rw [IntKind.wrap_i64]; omega
    have m4 : IntKind.i64.wrap (Y + S + K) = (c : Int) := by rw [IntKind.wrap_i64]; omega
    have i0 : (0 : Int) < (i : Int) := by omega
    have i1 : i ≤ 1048576 := by omega
    clear hc1 hc2 hc3 h hp hl hk hsu hsb hcnt bY bS bR eY eS hj hr hij B1 bW hc
    rw [R.out]
    clear R hY hS hK
    cases bit with
    | true =>
      go_enter Try.func33, Try.ntmps33
      go_wp2
      rw [← hW]
      clear hW
      go_quiet ((go_at_call 45; exact Calls.quiet_of_same (C.out _)))
      go_wp2
      go_ret
      exact ⟨rfl, below_drewN HB.out _⟩
    | false =>
      go_enter Try.func33, Try.ntmps33
      go_wp2
      rw [← hW]
      clear hW
      go_quiet ((go_at_call 45; exact Calls.quiet_of_same (C.out _)))
      go_wp2
      go_ret
      refine ⟨ret_int ?_, below_drewN HB.out _⟩
      try simp only [Bool.false_eq_true, if_false]
      omega
end Go.Proofs.Ytcgnphffjfffgaa
