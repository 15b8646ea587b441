/-
  The contract of the program's count. The contracts of the program's sought and of the function that it hands to Search. The contracts of the program's Build, Bits, Size, Access, Rank and Select.
-/
import Derived.Test.YtpeecabfcgijhaaGreatDoorT14
import Derived.Test.YtpeecabfcgijhaaGreatDoorT15
import Derived.Test.YtpeecabfcgijhaaGreatDoorT01
set_option linter.unusedVariables false
set_option linter.unusedSimpArgs false
set_option maxRecDepth 100000
set_option maxHeartbeats 16000000
namespace Go.Proofs.YtpeecabfcgijhaaGreatDoor
open Go.RowKit Num Bit
theorem count_c (m : Nat) (ao : Option Addr) (xs : List Nat) (cap : Nat) (so : Option Addr) (su : List Int) (sc : Nat) (tO : Option Addr) (sb : List Int) (tc : Nat) (bit : Bool) (i : Nat) (w : World) (h : PlIn w (m : Int) ao xs cap so su sc tO sb tc) (hp : pchk (m : Int) xs su sb = true) (hi : i ≤ m) :
  Calls Tryz.prog 83 #[.agg #[.int .i64 (m : Int), .slice ao xs.length cap, .slice so su.length sc, .slice tO sb.length tc], .bool bit, .int .i64 i] w fun e w' => e = .returned (.int .i64 ((cB xs bit i : Nat) : Int)) ∧ Below w.heap.size w w' := by
 obtain ⟨m', e0, hm, hl, hk, hsu, hsb⟩ := pchk_nat _ _ _ _ hp
 obtain rfl : m = m' := by omega
 clear e0
 by_cases h0 : i = 0
 ·subst h0
  have R : Hid (cB xs bit 0 = 0) := by show cB xs bit 0 = 0; have := cB_le xs bit 0; omega
  rw [R.out]
  cases bit with
  | true =>
   go_enter Tryz.func83, Tryz.ntmps83
   go_wp2
   go_ret
   exact ⟨rfl, below_alloc w _⟩
  | false =>
   go_enter Tryz.func83, Tryz.ntmps83
   go_wp2
   go_ret
   exact ⟨rfl, below_alloc w _⟩
 ·obtain ⟨j, hj⟩ : ∃ j : Nat, j = (i - 1) / 64 := ⟨_, rfl⟩
  obtain ⟨r, hr⟩ : ∃ r : Nat, r = i - 64 * j := ⟨_, rfl⟩
  have hij : i = 64 * j + r := by omega
  have r0 : 0 < r := by omega
  have r1 : r ≤ 64 := by omega
  have lx : j < xs.length := by omega
  have ls : j / 8 < su.length := by rw [hsu, length_supL, Int.toNat_natCast]; omega
  have lt : j < sb.length := by rw [hsb, length_subL]; exact lx
  have hcnt := count_ok m xs h.f hk hl j r r0 r1 (by omega)
  have eY : gi su (j / 8) = supI (m : Int) xs (j / 8) := by rw [hsu]; unfold supL; rw [gi_supP _ _ _ _ (by rw [Int.toNat_natCast]; omega)]
  have eS : gi sb j = subI (m : Int) xs j := by rw [hsb]; unfold subL; rw [gi_subP _ _ _ _ lx]
  have bY := supI_bound (m : Int) xs (j / 8)
  have bS := subI_bound (m : Int) xs j
  have bR := rank_bounds (gt xs j : Int) (r : Int)
  have bC := cntB_le xs i
  obtain ⟨b1, o1, rfl, hb1, hc1⟩ := h.s (by omega)
  obtain ⟨b2, o2, rfl, hb2, hc2⟩ := h.t (by omega)
  obtain ⟨b3, o3, rfl, hb3, hc3⟩ := h.x (by omega)
  obtain ⟨W, hW⟩ : ∃ W, W = w.alloc (.cells #[.int .i64 (m : Int), .slice (some ⟨b3, o3, none⟩) xs.length cap, .slice (some ⟨b1, o1, none⟩) su.length sc, .slice (some ⟨b2, o2, none⟩) sb.length tc] 29) := ⟨_, rfl⟩
  have bW := yb1 hW
  have B1 := yc1 hW
  have x1 := B1.cell 1 rfl
  have x2 := B1.cell 2 rfl
  have x3 := B1.cell 3 rfl
  have y1 := (bW.cell (p := ⟨b1, o1 + j / 8, none⟩) hb1).trans (hc1 _ ls)
  have y2 := (bW.cell (p := ⟨b2, o2 + j, none⟩) hb2).trans (hc2 _ lt)
  have y3 := (bW.cell (p := ⟨b3, o3 + j, none⟩) hb3).trans (hc3 _ lx)
  rw [eY] at y1
  rw [eS] at y2
  have hX := h.f j
  obtain ⟨Y, hY⟩ : ∃ Y, Hid (Y = supI (m : Int) xs (j / 8)) := ⟨_, rfl⟩
  obtain ⟨S, hS⟩ : ∃ S, Hid (S = subI (m : Int) xs j) := ⟨_, rfl⟩
  obtain ⟨K, hK⟩ : ∃ K, Hid (K = rankI (gt xs j : Int) (r : Int)) := ⟨_, rfl⟩
  have C : Hid (∀ w0, Calls Tryz.prog 129 #[.int .u64 (gt xs j : Int), .int .i64 (r : Int)] w0 fun e w' => e = .returned (.int .i64 K) ∧ w' = w0) := by
   intro w0
   have := rank_c (gt xs j : Int) (r : Int) (Int.natCast_nonneg _) (Int.ofNat_lt.2 hX) w0
   rw [hK.out]
   exact this
  rw [← hY.out] at y1 bY hcnt
  rw [← hS.out] at y2 bS hcnt
  rw [← hK.out] at bR hcnt
  rw [← hij] at hcnt
  obtain ⟨c, hc⟩ : ∃ c, c = cntB xs i := ⟨_, rfl⟩
  rw [← hc] at hcnt bC
  have R : Hid (cB xs bit i = if bit then c else i - c) := by show cB xs bit i = _; unfold cB; rw [hc]
  have HB : Hid (Below w.heap.size w W) := bW
  have q1 : ((i : Int) - 1) / 64 = (j : Int) := by omega
  have q8 : (j : Int) / 8 < (su.length : Int) := by omega
  have e8 : ((j : Int) / 8).toNat = j / 8 := by omega
  have w8 : IntKind.i64.wrap ((j : Int) / 8) = (j : Int) / 8 := by rw [IntKind.wrap_i64]; omega
  have p8 : (0 : Int) ≤ (j : Int) / 8 := by omega
  have lt2 : (j : Int) < (sb.length : Int) := by omega
  have lx2 : (j : Int) < (xs.length : Int) := by omega
  have m1 : IntKind.i64.wrap ((j : Int) * 64) = (j : Int) * 64 := by rw [IntKind.wrap_i64]; omega
  have m2 : IntKind.i64.wrap ((i : Int) - (j : Int) * 64) = (r : Int) := by rw [IntKind.wrap_i64]; omega
  have m3 : IntKind.i64.wrap (Y + S) = Y + S := by rw [IntKind.wrap_i64]; omega
  have m4 : IntKind.i64.wrap (Y + S + K) = (c : Int) := by rw [IntKind.wrap_i64]; omega
  have i0 : (0 : Int) < (i : Int) := by omega
  have i1 : i ≤ 1048576 := by omega
  clear hc1 hc2 hc3 h hp hl hk hsu hsb hcnt bY bS bR eY eS hj hr hij B1 bW hc
  rw [R.out]
  clear R hY hS hK
  cases bit with
  | true =>
   go_enter Tryz.func83, Tryz.ntmps83
   go_wp2
   rw [← hW]
   clear hW
   go_quiet ((go_at_call 129; exact Calls.quiet_of_same (C.out _)))
   go_wp2
   go_ret
   exact ⟨rfl, below_drewN HB.out _⟩
  | false =>
   go_enter Tryz.func83, Tryz.ntmps83
   go_wp2
   rw [← hW]
   clear hW
   go_quiet ((go_at_call 129; exact Calls.quiet_of_same (C.out _)))
   go_wp2
   go_ret
   refine ⟨ret_int ?_, below_drewN HB.out _⟩
   try simp only [Bool.false_eq_true, if_false]
   omega
def Caught (w : World) (g : Nat) (cs : List Value) (bit : Bool) (k : Nat) : Prop := Cel w g cs 29 ∧ Cel w (g + 1) [.bool bit] 4 ∧ Cel w (g + 2) [.int .i64 (k : Int)] 3
theorem Caught.kept {w w' : World} {g : Nat} {cs : List Value} {bit : Bool} {k : Nat} (h : Caught w g cs bit k) (hb : Below w.heap.size w w') : Caught w' g cs bit k := ⟨h.1.kept hb, h.2.1.kept hb, h.2.2.kept hb⟩
theorem sought1_c (m : Nat) (ao : Option Addr) (xs : List Nat) (cap : Nat) (so : Option Addr) (su : List Int) (sc : Nat) (tO : Option Addr) (sb : List Int) (tc : Nat) (bit : Bool) (k i g : Nat) (w : World) (h : PlIn w (m : Int) ao xs cap so su sc tO sb tc) (hp : pchk (m : Int) xs su sb = true) (hi : 64 * (i + 1) ≤ m) (hm : m ≤ 1048576)
  (hC : Caught w g [.int .i64 (m : Int), .slice ao xs.length cap, .slice so su.length sc, .slice tO sb.length tc] bit k) :
  Calls Tryz.prog 141 #[.int .i64 i, .pointer (some ⟨g, 0, none⟩), .pointer (some ⟨g + 1, 0, none⟩), .pointer (some ⟨g + 2, 0, none⟩)] w fun e w' => e = .returned (.bool (decide (k < cB xs bit (64 * (i + 1))))) ∧ Below w.heap.size w w' := by
 have C : Hid (∀ w0, Below w.heap.size w w0 → Calls Tryz.prog 83 #[.agg #[.int .i64 (m : Int), .slice ao xs.length cap, .slice so su.length sc, .slice tO sb.length tc], .bool bit, .int .i64 ((64 * (i + 1) : Nat) : Int)] w0 fun e w' => e = .returned (.int .i64 ((cB xs bit (64 * (i + 1)) : Nat) : Int)) ∧ Below w0.heap.size w0 w') := fun w0 hb => count_c m ao xs cap so su sc tO sb tc bit (64 * (i + 1)) w0 (h.keep hb) hp hi
 have m1 : IntKind.i64.wrap ((i : Int) + 1) = (i : Int) + 1 := by rw [IntKind.wrap_i64]; omega
 have m2 : IntKind.i64.wrap (((i : Int) + 1) * 64) = ((64 * (i + 1) : Nat) : Int) := by rw [IntKind.wrap_i64]; omega
 have bc := cB_le xs bit (64 * (i + 1))
 generalize cB xs bit (64 * (i + 1)) = Z at *
 clear h hp
 go_enter Tryz.func141, Tryz.ntmps141
 go_wp2
 refine region_g [] (fun w' => Caught w' g [.int .i64 (m : Int), .slice ao xs.length cap, .slice so su.length sc, .slice tO sb.length tc] bit k) (by kernel_rfl) ?_
 have hS : Caught w.drew g [.int .i64 (m : Int), .slice ao xs.length cap, .slice so su.length sc, .slice tO sb.length tc] bit k := hC
 have bW : Below w.heap.size w w.drew := (Below.refl _ _).drew
 generalize w.drew = V at *
 refine AnyG.tf 0 hS rfl (fun w0 h0 => by have c0 := h0.1.cell 0 rfl; have c1 := h0.1.cell 1 rfl; have c2 := h0.1.cell 2 rfl; have c3 := h0.1.cell 3 rfl; go_simp; try with_reducible rfl) ?_
 refine AnyG.tf 1 hS rfl (fun w0 h0 => by have c0 := h0.2.1.cell 0 rfl; go_simp; try with_reducible rfl) ?_
 refine AnyG.tk 2 hS ?_
 refine AnyG.tk 3 hS ?_
 refine AnyG.tk 4 hS ?_
 refine AnyG.tf 6 hS rfl (fun w0 h0 => by have c0 := h0.2.2.cell 0 rfl; go_simp; try with_reducible rfl) ?_
 refine AnyG.o1 5 ?_
 intro K hK
 go_simp
 refine (C.out _ bW).mono ?_
 rintro e w2 ⟨rfl, hb⟩
 have hS2 := hS.kept hb
 have bw2 := bW.trans (hb.mono bW.size)
 refine hK.out _ _ (fun _ => hS2) ?_
 clear hK K
 try simp only [Act.put, yq0, yq1, yq2, yq3, yq4, yq5]
 refine AnyG.tk 7 hS2 ?_
 refine AnyG.tk 8 hS2 ?_
 refine AnyG.done (by kernel_rfl) ?_ _
 go_wp2
 go_ret
 exact ⟨rfl, bw2⟩
theorem psought_c (m : Nat) (ao : Option Addr) (xs : List Nat) (cap : Nat) (so : Option Addr) (su : List Int) (sc : Nat) (tO : Option Addr) (sb : List Int) (tc : Nat) (bit : Bool) (k q : Nat) (w : World) (h : PlIn w (m : Int) ao xs cap so su sc tO sb tc) (hp : pchk (m : Int) xs su sb = true) (hq : pselO (m : Int) xs bit (k : Int) = some q) :
  Calls Tryz.prog 87 #[.agg #[.int .i64 (m : Int), .slice ao xs.length cap, .slice so su.length sc, .slice tO sb.length tc], .bool bit, .int .i64 k] w fun e w' => e = .returned (.int .i64 (q : Int)) ∧ Below w.heap.size w w' := by
 obtain ⟨m', e0, hm, hl, hk, hsu, hsb⟩ := pchk_nat _ _ _ _ hp
 obtain rfl : m = m' := by omega
 clear e0 hsu hsb
 have hkk : k < cB xs bit m := by
  have := (psel_iff (m : Int) xs bit (k : Int)).1 (by rw [hq]; rfl)
  rw [Int.toNat_natCast] at this
  omega
 have hm0 : 0 < m := by have := cB_le xs bit m; omega
 have hkm : k < m := by have := cB_le xs bit m; omega
 obtain ⟨n, hn⟩ : ∃ n, n = xs.length - 1 := ⟨_, rfl⟩
 have hn1 : ((xs.length : Int) - 1) = (n : Int) := by omega
 have hnm : 64 * n ≤ m := by omega
 have hnb : n ≤ 16384 := by omega
 have SE : Hid (∀ j, j ≤ n → (∀ i, i < j → cB xs bit (64 * (i + 1)) ≤ k) → (∀ i, j ≤ i → i < n → k < cB xs bit (64 * (i + 1))) → cB xs bit (64 * j) ≤ k ∧ ∃ r : Nat, r < 64 ∧ selI (wb xs bit j : Int) ((k : Int) - (cB xs bit (64 * j) : Int)) = (r : Int) ∧ q = 64 * j + r) := by
  intro j hj h1 h2
  obtain ⟨a, r, b, c, d⟩ := sought_end m xs h.f hl bit k j hkk (by omega) h1 (fun i x y => h2 i x (by omega))
  rw [hq] at d
  exact ⟨a, r, b, c, Option.some.inj d⟩
 have hf := h.f
 have HC : Hid (∀ (i : Nat) w0, i ≤ m → Below w.heap.size w w0 → Calls Tryz.prog 83 #[.agg #[.int .i64 (m : Int), .slice ao xs.length cap, .slice so su.length sc, .slice tO sb.length tc], .bool bit, .int .i64 (i : Int)] w0 fun e w' => e = .returned (.int .i64 ((cB xs bit i : Nat) : Int)) ∧ Below w0.heap.size w0 w') := fun i w0 hi hb => count_c m ao xs cap so su sc tO sb tc bit i w0 (h.keep hb) hp hi
 obtain ⟨W, hW⟩ : ∃ W, W = ((w.alloc (.cells #[.int .i64 (m : Int), .slice ao xs.length cap, .slice so su.length sc, .slice tO sb.length tc] 29)).alloc (.cells #[.bool bit] 4)).alloc (.cells #[.int .i64 (k : Int)] 3) := ⟨_, rfl⟩
 have bW : Below w.heap.size w W := by rw [hW]; exact ((below_alloc w _).alloc (by simp) _).alloc (by simp; omega) _
 have hG : Caught W w.heap.size [.int .i64 (m : Int), .slice ao xs.length cap, .slice so su.length sc, .slice tO sb.length tc] bit k := by
  rw [hW]
  refine ⟨((Cel.new w _ _).alloc _).alloc _, (Cel.new2 w _ _ _).alloc _, ?_⟩
  have := Cel.new2 (w.alloc (.cells #[.int .i64 (m : Int), .slice ao xs.length cap, .slice so su.length sc, .slice tO sb.length tc] 29)) (.cells #[.bool bit] 4) [.int .i64 (k : Int)] 3
  simpa using this
 have HS : Hid (∀ w0, w0 = W → Calls Tryz.prog 140 #[.int .i64 (n : Int), .func (.func 141) #[] #[.pointer (some ⟨w.heap.size, 0, none⟩), .pointer (some ⟨w.heap.size + 1, 0, none⟩), .pointer (some ⟨w.heap.size + 2, 0, none⟩)]] w0 fun e w' => ∃ j : Nat, e = .returned (.int .i64 j) ∧ j ≤ n ∧ (∀ i, i < j → decide (k < cB xs bit (64 * (i + 1))) = false) ∧ (∀ i, j ≤ i → i < n → decide (k < cB xs bit (64 * (i + 1))) = true) ∧ Below w0.heap.size w0 w') := by
  intro w0 e0
  subst e0
  refine search_c n (by omega) ⟨w.heap.size, 0, none⟩ ⟨w.heap.size + 1, 0, none⟩ ⟨w.heap.size + 2, 0, none⟩ (fun i => decide (k < cB xs bit (64 * (i + 1)))) w0 ?_ ?_
  ·intro i w1 hi hb
   exact sought1_c m ao xs cap so su sc tO sb tc bit k i w.heap.size w1 (h.keep (bW.trans (hb.mono bW.size))) hp (by omega) hm (hG.kept hb)
  ·intro i j hij hi
   simp only [decide_eq_true_eq] at hi ⊢
   have := cB_mono xs bit (64 * (i + 1)) (64 * (j + 1) - 64 * (i + 1))
   rw [show 64 * (i + 1) + (64 * (j + 1) - 64 * (i + 1)) = 64 * (j + 1) by omega] at this
   omega
 obtain ⟨b3, o3, rfl, hb3, hc3⟩ := h.x (by omega)
 have hmf : ∀ (fn : Fn) (first cap : Array Value) (w : World), (Instr.makeFunc fn first cap).run Tryz.prog w = .ok (.func fn first cap) w := fun _ _ _ _ => rfl
 have sg : IntKind.u64.signed = false := rfl
 have hlx : n < xs.length := by omega
 clear h hp hq hkk hl hk hn
 go_enter Tryz.func87, Tryz.ntmps87
 go_wp2_with fail
 rw [← hW]
 refine (HS.out _ rfl).mono ?_
 rintro e w1 ⟨j, rfl, hj, g1, g2, hb⟩
 obtain ⟨hle, r, hr, hsel, hqe⟩ := SE.out j hj (fun i hi => by simpa using g1 i hi) (fun i x y => by simpa using g2 i x y)
 have hG1 := hG.kept hb
 have bw1 := bW.trans (hb.mono bW.size)
 clear g1 g2 hb hG bW hW HS SE
 have x1 := hG1.1.cell 1 rfl
 have xb := hG1.2.1.cell 0 rfl
 have y3 := (bw1.cell (p := ⟨b3, o3 + j, none⟩) hb3).trans (hc3 j (by omega))
 have lx2 : (j : Int) < (xs.length : Int) := by omega
 have hwb := wb_lt xs hf bit j
 have fl := flip_wb xs hf j
 have CS : Hid (∀ w0, Calls Tryz.prog 142 #[.int .u64 (wb xs bit j : Int), .int .i64 ((k : Int) - (cB xs bit (64 * j) : Int))] w0 fun e w' => e = .returned (.int .i64 (r : Int)) ∧ w' = w0) := by
  intro w0
  have := select_c (wb xs bit j : Int) ((k : Int) - (cB xs bit (64 * j) : Int)) (Int.natCast_nonneg _) (Int.ofNat_lt.2 hwb) w0
  rw [hsel] at this
  exact this
 have CC : Hid (∀ w0, Below w.heap.size w w0 → Calls Tryz.prog 83 #[.agg #[.int .i64 (m : Int), .slice (some ⟨b3, o3, none⟩) xs.length cap, .slice so su.length sc, .slice tO sb.length tc], .bool bit, .int .i64 ((64 * j : Nat) : Int)] w0 fun e w' => e = .returned (.int .i64 ((cB xs bit (64 * j) : Nat) : Int)) ∧ Below w0.heap.size w0 w') := fun w0 hb => HC.out (64 * j) w0 (by omega) hb
 have m1 : IntKind.i64.wrap ((j : Int) * 64) = ((64 * j : Nat) : Int) := by rw [IntKind.wrap_i64]; omega
 have m2 : IntKind.i64.wrap ((k : Int) - (cB xs bit (64 * j) : Int)) = (k : Int) - (cB xs bit (64 * j) : Int) := by rw [IntKind.wrap_i64]; omega
 have m3 : IntKind.i64.wrap (((64 * j : Nat) : Int) + (r : Int)) = (q : Int) := by rw [IntKind.wrap_i64]; omega
 have m4 : IntKind.i64.wrap (64 * (j : Int) + (r : Int)) = (q : Int) := by rw [IntKind.wrap_i64]; omega
 have HX : Hid (wb xs true j = gt xs j) := rfl
 have HB : Hid (Below w.heap.size w w1) := bw1
 clear hsel hqe hc3 hwb hf HC hle
 generalize (cB xs bit (64 * j)) = Z at *
 cases bit with
 | true =>
  rw [HX.out] at CS
  go_wp2
  refine region_g [] (fun w' => Caught w' w.heap.size [.int .i64 (m : Int), .slice (some ⟨b3, o3, none⟩) xs.length cap, .slice so su.length sc, .slice tO sb.length tc] true k) (by kernel_rfl) ?_
  have hS : Caught w1.drew w.heap.size [.int .i64 (m : Int), .slice (some ⟨b3, o3, none⟩) xs.length cap, .slice so su.length sc, .slice tO sb.length tc] true k := hG1
  have bV : Below w.heap.size w w1.drew := HB.out.drew
  generalize w1.drew = V at *
  refine AnyG.tk 0 hS ?_
  refine AnyG.tk 1 hS ?_
  refine AnyG.tk 2 hS ?_
  refine AnyG.tf 3 hS rfl (fun w0 h0 => by have c0 := h0.2.2.cell 0 rfl; go_simp; try with_reducible rfl) ?_
  refine AnyG.tf 4 hS rfl (fun w0 h0 => by have c0 := h0.1.cell 0 rfl; have c1 := h0.1.cell 1 rfl; have c2 := h0.1.cell 2 rfl; have c3 := h0.1.cell 3 rfl; go_simp; try with_reducible rfl) ?_
  refine AnyG.tf 5 hS rfl (fun w0 h0 => by have c0 := h0.2.1.cell 0 rfl; go_simp; try with_reducible rfl) ?_
  refine AnyG.tk 6 hS ?_
  refine AnyG.tk 7 hS ?_
  refine AnyG.o1 8 ?_
  intro K hK
  go_simp
  refine (CC.out _ bV).mono ?_
  rintro e w2 ⟨rfl, hb⟩
  have hS2 := hS.kept hb
  have bw2 := bV.trans (hb.mono bV.size)
  refine hK.out _ _ (fun _ => hS2) ?_
  clear hK K
  try simp only [Act.put, yq0, yq1, yq2, yq3, yq4, yq5]
  refine AnyG.tk 9 hS2 ?_
  refine AnyG.o1 10 ?_
  intro K hK
  go_simp
  refine (CS.out _).mono ?_
  rintro e w3 ⟨rfl, rfl⟩
  refine hK.out _ _ (fun _ => hS2) ?_
  clear hK K
  try simp only [Act.put, yq0, yq1, yq2, yq3, yq4, yq5]
  refine AnyG.tk 11 hS2 ?_
  refine AnyG.tk 12 hS2 ?_
  refine AnyG.done (by kernel_rfl) ?_ _
  go_wp2
  go_ret
  exact ⟨rfl, bw2⟩
 | false =>
  go_wp2
  rw [show bits BinOp.xor IntKind.u64 IntKind.u64.max (gt xs j : Int) = (wb xs false j : Int) from fl]
  refine region_g [] (fun w' => Caught w' w.heap.size [.int .i64 (m : Int), .slice (some ⟨b3, o3, none⟩) xs.length cap, .slice so su.length sc, .slice tO sb.length tc] false k) (by kernel_rfl) ?_
  have hS : Caught w1.drew w.heap.size [.int .i64 (m : Int), .slice (some ⟨b3, o3, none⟩) xs.length cap, .slice so su.length sc, .slice tO sb.length tc] false k := hG1
  have bV : Below w.heap.size w w1.drew := HB.out.drew
  generalize w1.drew = V at *
  refine AnyG.tk 0 hS ?_
  refine AnyG.tk 1 hS ?_
  refine AnyG.tk 2 hS ?_
  refine AnyG.tf 3 hS rfl (fun w0 h0 => by have c0 := h0.2.2.cell 0 rfl; go_simp; try with_reducible rfl) ?_
  refine AnyG.tf 4 hS rfl (fun w0 h0 => by have c0 := h0.1.cell 0 rfl; have c1 := h0.1.cell 1 rfl; have c2 := h0.1.cell 2 rfl; have c3 := h0.1.cell 3 rfl; go_simp; try with_reducible rfl) ?_
  refine AnyG.tf 5 hS rfl (fun w0 h0 => by have c0 := h0.2.1.cell 0 rfl; go_simp; try with_reducible rfl) ?_
  refine AnyG.tk 6 hS ?_
  refine AnyG.tk 7 hS ?_
  refine AnyG.o1 8 ?_
  intro K hK
  go_simp
  refine (CC.out _ bV).mono ?_
  rintro e w2 ⟨rfl, hb⟩
  have hS2 := hS.kept hb
  have bw2 := bV.trans (hb.mono bV.size)
  refine hK.out _ _ (fun _ => hS2) ?_
  clear hK K
  try simp only [Act.put, yq0, yq1, yq2, yq3, yq4, yq5]
  refine AnyG.tk 9 hS2 ?_
  refine AnyG.o1 10 ?_
  intro K hK
  go_simp
  refine (CS.out _).mono ?_
  rintro e w3 ⟨rfl, rfl⟩
  refine hK.out _ _ (fun _ => hS2) ?_
  clear hK K
  try simp only [Act.put, yq0, yq1, yq2, yq3, yq4, yq5]
  refine AnyG.tk 11 hS2 ?_
  refine AnyG.tk 12 hS2 ?_
  refine AnyG.done (by kernel_rfl) ?_ _
  go_wp2
  go_ret
  exact ⟨rfl, bw2⟩
theorem bits_p (N : Int) (ao : Option Addr) (xs : List Nat) (cap : Nat) (so : Option Addr) (su : List Int) (sc : Nat) (tO : Option Addr) (sb : List Int) (tc : Nat) (w : World) (h : PlIn w N ao xs cap so su sc tO sb tc) :
  Calls Tryz.prog 61 #[.agg #[.int .i64 N, .slice ao xs.length cap, .slice so su.length sc, .slice tO sb.length tc]] w fun e w' => ∃ bo bc, e = .returned (.agg #[.int .i64 (piN N xs su sb), .slice bo (piX N xs su sb).length bc]) ∧ Wd w' bo (piX N xs su sb) ∧ (piX N xs su sb).length ≤ bc ∧ Below w.heap.size w w' := by
 unfold piN piX
 obtain ⟨W, hW⟩ : ∃ W, W = (w.alloc (.cells #[.int .i64 N, .slice ao xs.length cap, .slice so su.length sc, .slice tO sb.length tc] 29)).alloc (.cells #[.int .i64 0, .slice none 0 0] 24) := ⟨_, rfl⟩
 have bW := yb2 hW
 have B1 := yc3 hW
 have B2 := yc2 hW
 have C1 : Hid (∀ w0, w0 = W → Calls Tryz.prog 58 #[.agg #[.int .i64 N, .slice ao xs.length cap, .slice so su.length sc, .slice tO sb.length tc]] w0 fun e w' => e = .returned (.bool (pchk N xs su sb)) ∧ Below w0.heap.size w0 w') := fun w0 e0 => by subst e0; exact check_p N ao xs cap so su sc tO sb tc w0 (h.keep bW)
 cases hk : pchk N xs su sb with
 | false =>
  simp only [Bool.false_eq_true, if_false]
  rw [hk] at C1
  go_enter Tryz.func61, Tryz.ntmps61
  go_wp2_with fail
  rw [← hW]
  refine (C1.out _ rfl).mono ?_
  rintro e w1 ⟨rfl, hb⟩
  have bw1 := bW.trans (hb.mono bW.size)
  replace B1 := B1.kept hb
  replace B2 := B2.kept hb
  clear hb C1 hW bW W
  have y0 := B2.cell 0 rfl
  have y1 := B2.cell 1 rfl
  have f0 := B2.frozen 0
  have f1 := B2.frozen 1
  have hC := (B2.set 0 (.int .i64 0)).set 1 (.slice none 0 0)
  have HB := below_set (below_set bw1 (w.heap.size + 1) 0 (.int .i64 0) (Nat.le_succ _)) (w.heap.size + 1) 1 (.slice none 0 0) (Nat.le_succ _)
  have k0 := hC.cell 0 rfl
  have k1 := hC.cell 1 rfl
  go_wp2
  exact bodyPost_ret (v := .agg #[.int .i64 0, .slice none 0 0]) (by simp [results, Tryz.results61, go_sem, k0, k1]) rfl ⟨none, 0, rfl, wd0' _ _, Nat.le_refl _, HB⟩
 | true =>
  simp only [if_true]
  rw [hk] at C1
  have C2 : Hid (∀ w0, Below w.heap.size w w0 → Calls Tryz.prog 65 #[.agg #[.int .i64 N, .slice ao xs.length cap]] w0 fun e w' => ∃ bo bc, e = .returned (.agg #[.int .i64 N, .slice bo xs.length bc]) ∧ Wd w' bo xs ∧ xs.length ≤ bc ∧ Below w0.heap.size w0 w') := fun w0 hb => pcopied_c N ao xs cap w0 (h.x.keep hb) h.l
  clear h
  go_enter Tryz.func61, Tryz.ntmps61
  go_wp2_with fail
  rw [← hW]
  refine (C1.out _ rfl).mono ?_
  rintro e w1 ⟨rfl, hb⟩
  have bw1 := bW.trans (hb.mono bW.size)
  replace B1 := B1.kept hb
  replace B2 := B2.kept hb
  clear hb C1 hW bW W
  have r0 := B1.cell 0 rfl
  have r1 := B1.cell 1 rfl
  go_wp2_with fail
  refine (C2.out _ bw1).mono ?_
  rintro e w2 ⟨bo, bc, rfl, hW2, hbc, hb⟩
  have bw2 := bw1.trans (hb.mono bw1.size)
  replace B2 := B2.kept hb
  clear hb bw1 r0 r1 C2
  have y0 := B2.cell 0 rfl
  have y1 := B2.cell 1 rfl
  have f0 := B2.frozen 0
  have f1 := B2.frozen 1
  have hC := (B2.set 0 (.int .i64 N)).set 1 (.slice bo xs.length bc)
  have oW := ((Only.refl (w.heap.size + 1) w2).set 0 (.int .i64 N)).set 1 (.slice bo xs.length bc)
  have hWd := oW.wd hW2 (hW2.apart B2 (by intro v hv n; simp at hv; rcases hv with rfl | rfl <;> simp))
  have HB := bw2.trans (oW.below (Nat.le_succ _))
  have k0 := hC.cell 0 rfl
  have k1 := hC.cell 1 rfl
  have HF := And.intro hWd HB
  replace HF := Hid.mk' HF
  clear hWd HB oW hC hW2 bw2
  go_wp2
  exact bodyPost_ret (v := .agg #[.int .i64 N, .slice bo xs.length bc]) (by simp [results, Tryz.results61, go_sem, k0, k1]) rfl ⟨bo, bc, rfl, HF.out.1, hbc, HF.out.2⟩
theorem size_p (N : Int) (ao : Option Addr) (xs : List Nat) (cap : Nat) (so : Option Addr) (su : List Int) (sc : Nat) (tO : Option Addr) (sb : List Int) (tc : Nat) (w : World) (h : PlIn w N ao xs cap so su sc tO sb tc) :
  Calls Tryz.prog 47 #[.agg #[.int .i64 N, .slice ao xs.length cap, .slice so su.length sc, .slice tO sb.length tc]] w fun e w' => e = .returned (.int .i64 (pzN N xs su sb)) ∧ Below w.heap.size w w' := by
 unfold pzN
 obtain ⟨W, hW⟩ : ∃ W, W = w.alloc (.cells #[.int .i64 N, .slice ao xs.length cap, .slice so su.length sc, .slice tO sb.length tc] 29) := ⟨_, rfl⟩
 have bW := yb1 hW
 have B1 := yc1 hW
 have C1 : Hid (∀ w0, w0 = W → Calls Tryz.prog 58 #[.agg #[.int .i64 N, .slice ao xs.length cap, .slice so su.length sc, .slice tO sb.length tc]] w0 fun e w' => e = .returned (.bool (pchk N xs su sb)) ∧ Below w0.heap.size w0 w') := fun w0 e0 => by subst e0; exact check_p N ao xs cap so su sc tO sb tc w0 (h.keep bW)
 cases hk : pchk N xs su sb with
 | false =>
  simp only [Bool.false_eq_true, if_false]
  rw [hk] at C1
  go_enter Tryz.func47, Tryz.ntmps47
  go_wp2_with fail
  rw [← hW]
  refine (C1.out _ rfl).mono ?_
  rintro e w1 ⟨rfl, hb⟩
  have bw1 := bW.trans (hb.mono bW.size)
  replace B1 := B1.kept hb
  clear hb C1 hW bW W
  go_wp2
  go_ret
  exact ⟨rfl, bw1⟩
 | true =>
  simp only [if_true]
  rw [hk] at C1
  obtain ⟨m, rfl, hm, hl, z1, z2, z3⟩ := pchk_nat _ _ _ _ hk
  clear z1 z2 z3
  have l1 := h.sl
  have l2 := h.tl
  obtain ⟨A, hA⟩ : ∃ A, A = su.length := ⟨_, rfl⟩
  obtain ⟨B, hB⟩ : ∃ B, B = sb.length := ⟨_, rfl⟩
  rw [← hA] at l1 B1 ⊢
  rw [← hB] at l2 B1 ⊢
  rw [← hA, ← hB] at C1 hW
  clear h hl hk hA hB
  go_enter Tryz.func47, Tryz.ntmps47
  go_wp2_with fail
  rw [← hW]
  refine (C1.out _ rfl).mono ?_
  rintro e w1 ⟨rfl, hb⟩
  have bw1 := bW.trans (hb.mono bW.size)
  replace B1 := B1.kept hb
  clear hb C1 hW bW W
  have x0 := B1.cell 0 rfl
  have x2 := B1.cell 2 rfl
  have x3 := B1.cell 3 rfl
  go_wp2
  go_ret
  refine ⟨ret_int ?_, bw1⟩
  first | rfl | omega
theorem access_p (N : Int) (ao : Option Addr) (xs : List Nat) (cap : Nat) (so : Option Addr) (su : List Int) (sc : Nat) (tO : Option Addr) (sb : List Int) (tc : Nat) (i : Int) (w : World) (h : PlIn w N ao xs cap so su sc tO sb tc) (hi : -9223372036854775808 ≤ i ∧ i ≤ 9223372036854775807) :
  Calls Tryz.prog 32 #[.agg #[.int .i64 N, .slice ao xs.length cap, .slice so su.length sc, .slice tO sb.length tc], .int .i64 i] w fun e w' => e = .returned (.tuple #[.bool (paB N xs su sb i), .int .i64 (paE N xs su sb i)]) ∧ Below w.heap.size w w' := by
 unfold paB paE
 obtain ⟨W, hW⟩ : ∃ W, W = w.alloc (.cells #[.int .i64 N, .slice ao xs.length cap, .slice so su.length sc, .slice tO sb.length tc] 29) := ⟨_, rfl⟩
 have bW := yb1 hW
 have B1 := yc1 hW
 have C1 : Hid (∀ w0, w0 = W → Calls Tryz.prog 58 #[.agg #[.int .i64 N, .slice ao xs.length cap, .slice so su.length sc, .slice tO sb.length tc]] w0 fun e w' => e = .returned (.bool (pchk N xs su sb)) ∧ Below w0.heap.size w0 w') := fun w0 e0 => by subst e0; exact check_p N ao xs cap so su sc tO sb tc w0 (h.keep bW)
 cases hk : pchk N xs su sb with
 | false =>
  simp only [Bool.false_eq_true, if_false, Bool.false_and]
  rw [hk] at C1
  go_enter Tryz.func32, Tryz.ntmps32
  go_wp2_with fail
  rw [← hW]
  refine (C1.out _ rfl).mono ?_
  rintro e w1 ⟨rfl, hb⟩
  have bw1 := bW.trans (hb.mono bW.size)
  replace B1 := B1.kept hb
  clear hb C1 hW bW W
  go_wp2
  go_ret2
  exact ⟨rfl, bw1⟩
 | true =>
  simp only [if_true, Bool.true_and]
  rw [hk] at C1
  have C2 : Hid (∀ w0, Below w.heap.size w w0 → Calls Tryz.prog 79 #[.agg #[.int .i64 N, .slice ao xs.length cap], .int .i64 i] w0 fun e w' => e = .returned (.tuple #[.bool (getB N xs i), .int .i64 (getE N xs i)]) ∧ Below w0.heap.size w0 w') := fun w0 hb => get_c N ao xs cap i w0 (h.x.keep hb) h.f
  clear h hk
  go_enter Tryz.func32, Tryz.ntmps32
  go_wp2_with fail
  rw [← hW]
  refine (C1.out _ rfl).mono ?_
  rintro e w1 ⟨rfl, hb⟩
  have bw1 := bW.trans (hb.mono bW.size)
  replace B1 := B1.kept hb
  clear hb C1 hW bW W
  have x0 := B1.cell 0 rfl
  have x1 := B1.cell 1 rfl
  go_wp2_with fail
  refine (C2.out _ bw1).mono ?_
  rintro e w2 ⟨rfl, hb⟩
  have bw2 := bw1.trans (hb.mono bw1.size)
  clear hb
  go_wp2
  go_ret2
  exact ⟨rfl, bw2⟩
theorem rank_p (N : Int) (ao : Option Addr) (xs : List Nat) (cap : Nat) (so : Option Addr) (su : List Int) (sc : Nat) (tO : Option Addr) (sb : List Int) (tc : Nat) (bit : Bool) (i : Int) (w : World) (h : PlIn w N ao xs cap so su sc tO sb tc) (hi : -9223372036854775808 ≤ i ∧ i ≤ 9223372036854775807) :
  Calls Tryz.prog 35 #[.agg #[.int .i64 N, .slice ao xs.length cap, .slice so su.length sc, .slice tO sb.length tc], .bool bit, .int .i64 i] w fun e w' => e = .returned (.tuple #[.int .i64 (prN N xs su sb bit i), .int .i64 (prE N xs su sb i)]) ∧ Below w.heap.size w w' := by
 obtain ⟨W, hW⟩ : ∃ W, W = w.alloc (.cells #[.int .i64 N, .slice ao xs.length cap, .slice so su.length sc, .slice tO sb.length tc] 29) := ⟨_, rfl⟩
 have bW := yb1 hW
 have B1 := yc1 hW
 have C1 : Hid (∀ w0, w0 = W → Calls Tryz.prog 58 #[.agg #[.int .i64 N, .slice ao xs.length cap, .slice so su.length sc, .slice tO sb.length tc]] w0 fun e w' => e = .returned (.bool (pchk N xs su sb)) ∧ Below w0.heap.size w0 w') := fun w0 e0 => by subst e0; exact check_p N ao xs cap so su sc tO sb tc w0 (h.keep bW)
 cases hk : pchk N xs su sb with
 | false =>
  have R1 : Hid (prE N xs su sb i = 2) := by show prE N xs su sb i = 2; unfold prE; rw [hk]; rfl
  have R2 : Hid (prN N xs su sb bit i = 0) := by show prN N xs su sb bit i = 0; unfold prN; rw [R1.out]; rfl
  rw [R1.out, R2.out]
  rw [hk] at C1
  go_enter Tryz.func35, Tryz.ntmps35
  go_wp2_with fail
  rw [← hW]
  refine (C1.out _ rfl).mono ?_
  rintro e w1 ⟨rfl, hb⟩
  have bw1 := bW.trans (hb.mono bW.size)
  replace B1 := B1.kept hb
  clear hb C1 hW bW W
  go_wp2
  go_ret2
  exact ⟨rfl, bw1⟩
 | true =>
  rw [hk] at C1
  obtain ⟨m, rfl, hm, hl, z1, z2, z3⟩ := pchk_nat _ _ _ _ hk
  clear z1 z2 z3
  by_cases h0 : i < 0 ∨ (m : Int) < i
  ·have R1 : Hid (prE (m : Int) xs su sb i = 3) := by show prE (m : Int) xs su sb i = 3; unfold prE; rw [hk, if_pos rfl, if_pos h0]
   have R2 : Hid (prN (m : Int) xs su sb bit i = 0) := by show prN (m : Int) xs su sb bit i = 0; unfold prN; rw [R1.out]; rfl
   rw [R1.out, R2.out]
   clear h hl hk
   by_cases h1 : i < 0
   ·go_enter Tryz.func35, Tryz.ntmps35
    go_wp2_with fail
    rw [← hW]
    refine (C1.out _ rfl).mono ?_
    rintro e w1 ⟨rfl, hb⟩
    have bw1 := bW.trans (hb.mono bW.size)
    replace B1 := B1.kept hb
    clear hb C1 hW bW W
    go_wp2
    go_ret2
    exact ⟨rfl, bw1⟩
   ·have h2 : (m : Int) < i := by omega
    go_enter Tryz.func35, Tryz.ntmps35
    go_wp2_with fail
    rw [← hW]
    refine (C1.out _ rfl).mono ?_
    rintro e w1 ⟨rfl, hb⟩
    have bw1 := bW.trans (hb.mono bW.size)
    replace B1 := B1.kept hb
    clear hb C1 hW bW W
    have x0 := B1.cell 0 rfl
    go_wp2
    go_ret2
    exact ⟨rfl, bw1⟩
  ·obtain ⟨k, rfl⟩ := Int.eq_ofNat_of_zero_le (show 0 ≤ i by omega)
   have R1 : Hid (prE (m : Int) xs su sb (k : Int) = 0) := by show prE (m : Int) xs su sb (k : Int) = 0; unfold prE; rw [hk, if_pos rfl, if_neg h0]
   have R2 : Hid (prN (m : Int) xs su sb bit (k : Int) = ((cB xs bit k : Nat) : Int)) := by show prN (m : Int) xs su sb bit (k : Int) = _; unfold prN; rw [R1.out, if_pos rfl, Int.toNat_natCast]
   rw [R1.out, R2.out]
   have C2 : Hid (∀ w0, Below w.heap.size w w0 → Calls Tryz.prog 83 #[.agg #[.int .i64 (m : Int), .slice ao xs.length cap, .slice so su.length sc, .slice tO sb.length tc], .bool bit, .int .i64 (k : Int)] w0 fun e w' => e = .returned (.int .i64 ((cB xs bit k : Nat) : Int)) ∧ Below w0.heap.size w0 w') := fun w0 hb => count_c m ao xs cap so su sc tO sb tc bit k w0 (h.keep hb) hk (by omega)
   have h3 : ¬ (m : Int) < (k : Int) := by omega
   clear h hl hk h0 hi
   go_enter Tryz.func35, Tryz.ntmps35
   go_wp2_with fail
   rw [← hW]
   refine (C1.out _ rfl).mono ?_
   rintro e w1 ⟨rfl, hb⟩
   have bw1 := bW.trans (hb.mono bW.size)
   replace B1 := B1.kept hb
   clear hb C1 hW bW W
   have x0 := B1.cell 0 rfl
   have x1 := B1.cell 1 rfl
   have x2 := B1.cell 2 rfl
   have x3 := B1.cell 3 rfl
   go_wp2_with fail
   refine (C2.out _ bw1).mono ?_
   rintro e w2 ⟨rfl, hb⟩
   have bw2 := bw1.trans (hb.mono bw1.size)
   clear hb
   go_wp2
   go_ret2
   exact ⟨rfl, bw2⟩
theorem select_p (N : Int) (ao : Option Addr) (xs : List Nat) (cap : Nat) (so : Option Addr) (su : List Int) (sc : Nat) (tO : Option Addr) (sb : List Int) (tc : Nat) (bit : Bool) (k : Int) (w : World) (h : PlIn w N ao xs cap so su sc tO sb tc) (hk0 : -9223372036854775808 ≤ k ∧ k ≤ 9223372036854775807) :
  Calls Tryz.prog 38 #[.agg #[.int .i64 N, .slice ao xs.length cap, .slice so su.length sc, .slice tO sb.length tc], .bool bit, .int .i64 k] w fun e w' => e = .returned (.tuple #[.int .i64 (psX N xs su sb bit k), .int .i64 (psE N xs su sb bit k)]) ∧ Below w.heap.size w w' := by
 obtain ⟨W, hW⟩ : ∃ W, W = w.alloc (.cells #[.int .i64 N, .slice ao xs.length cap, .slice so su.length sc, .slice tO sb.length tc] 29) := ⟨_, rfl⟩
 have bW := yb1 hW
 have B1 := yc1 hW
 have C1 : Hid (∀ w0, w0 = W → Calls Tryz.prog 58 #[.agg #[.int .i64 N, .slice ao xs.length cap, .slice so su.length sc, .slice tO sb.length tc]] w0 fun e w' => e = .returned (.bool (pchk N xs su sb)) ∧ Below w0.heap.size w0 w') := fun w0 e0 => by subst e0; exact check_p N ao xs cap so su sc tO sb tc w0 (h.keep bW)
 cases hk : pchk N xs su sb with
 | false =>
  have R1 : Hid (psE N xs su sb bit k = 2) := by show psE N xs su sb bit k = 2; unfold psE; rw [hk]; rfl
  have R2 : Hid (psX N xs su sb bit k = 0) := by show psX N xs su sb bit k = 0; unfold psX; rw [hk]; rfl
  rw [R1.out, R2.out]
  rw [hk] at C1
  go_enter Tryz.func38, Tryz.ntmps38
  go_wp2_with fail
  rw [← hW]
  refine (C1.out _ rfl).mono ?_
  rintro e w1 ⟨rfl, hb⟩
  have bw1 := bW.trans (hb.mono bW.size)
  replace B1 := B1.kept hb
  clear hb C1 hW bW W
  go_wp2
  go_ret2
  exact ⟨rfl, bw1⟩
 | true =>
  rw [hk] at C1
  obtain ⟨m, rfl, hm, hl, z1, z2, z3⟩ := pchk_nat _ _ _ _ hk
  clear z1 z2 z3
  have C2 : Hid (∀ w0, Below w.heap.size w w0 → Calls Tryz.prog 83 #[.agg #[.int .i64 (m : Int), .slice ao xs.length cap, .slice so su.length sc, .slice tO sb.length tc], .bool bit, .int .i64 (m : Int)] w0 fun e w' => e = .returned (.int .i64 ((cB xs bit m : Nat) : Int)) ∧ Below w0.heap.size w0 w') := fun w0 hb => count_c m ao xs cap so su sc tO sb tc bit m w0 (h.keep hb) hk (Nat.le_refl _)
  have hps := psel_iff (m : Int) xs bit k
  rw [Int.toNat_natCast] at hps
  by_cases h0 : 0 ≤ k ∧ k < (cB xs bit m : Int)
  ·obtain ⟨q, hq⟩ := Option.isSome_iff_exists.1 (hps.2 h0)
   obtain ⟨n, rfl⟩ := Int.eq_ofNat_of_zero_le h0.1
   have R1 : Hid (psE (m : Int) xs su sb bit (n : Int) = 0) := by show psE (m : Int) xs su sb bit (n : Int) = 0; unfold psE; rw [hk, if_pos rfl, hq]; rfl
   have R2 : Hid (psX (m : Int) xs su sb bit (n : Int) = (q : Int)) := by show psX (m : Int) xs su sb bit (n : Int) = _; unfold psX; rw [hk, if_pos rfl, hq]; rfl
   rw [R1.out, R2.out]
   have C3 : Hid (∀ w0, Below w.heap.size w w0 → Calls Tryz.prog 87 #[.agg #[.int .i64 (m : Int), .slice ao xs.length cap, .slice so su.length sc, .slice tO sb.length tc], .bool bit, .int .i64 (n : Int)] w0 fun e w' => e = .returned (.int .i64 (q : Int)) ∧ Below w0.heap.size w0 w') := fun w0 hb => psought_c m ao xs cap so su sc tO sb tc bit n q w0 (h.keep hb) hk hq
   have h3 : ¬ ((cB xs bit m : Nat) : Int) ≤ (n : Int) := by omega
   have h3' : (n : Int) < ((cB xs bit m : Nat) : Int) := by omega
   have h4 : ¬ (n : Int) < 0 := by omega
   clear h hl hk h0 hk0 hps
   generalize cB xs bit m = Z at *
   go_enter Tryz.func38, Tryz.ntmps38
   go_wp2_with fail
   rw [← hW]
   refine (C1.out _ rfl).mono ?_
   rintro e w1 ⟨rfl, hb⟩
   have bw1 := bW.trans (hb.mono bW.size)
   replace B1 := B1.kept hb
   clear hb C1 hW bW W
   have x0 := B1.cell 0 rfl
   have x1 := B1.cell 1 rfl
   have x2 := B1.cell 2 rfl
   have x3 := B1.cell 3 rfl
   go_wp2_with fail
   refine (C2.out _ bw1).mono ?_
   rintro e w2 ⟨rfl, hb⟩
   have bw2 := bw1.trans (hb.mono bw1.size)
   replace B1 := B1.kept hb
   clear hb bw1 x0 x1 x2 x3
   have x0 := B1.cell 0 rfl
   have x1 := B1.cell 1 rfl
   have x2 := B1.cell 2 rfl
   have x3 := B1.cell 3 rfl
   go_wp2_with fail
   refine (C3.out _ bw2).mono ?_
   rintro e w3 ⟨rfl, hb⟩
   have bw3 := bw2.trans (hb.mono bw2.size)
   clear hb
   go_wp2
   go_ret2
   exact ⟨rfl, bw3⟩
  ·have hn : (pselO (m : Int) xs bit k).isSome = false := by
    cases e : (pselO (m : Int) xs bit k).isSome with
    | false => rfl
    | true => exact absurd (hps.1 e) h0
   have hn2 : pselO (m : Int) xs bit k = none := by simpa using hn
   have R1 : Hid (psE (m : Int) xs su sb bit k = 3) := by show psE (m : Int) xs su sb bit k = 3; unfold psE; rw [hk, if_pos rfl, hn2]; rfl
   have R2 : Hid (psX (m : Int) xs su sb bit k = 0) := by show psX (m : Int) xs su sb bit k = _; unfold psX; rw [hk, if_pos rfl, hn2]; rfl
   rw [R1.out, R2.out]
   clear h hl hk hps hn hn2
   by_cases h1 : k < 0
   ·go_enter Tryz.func38, Tryz.ntmps38
    go_wp2_with fail
    rw [← hW]
    refine (C1.out _ rfl).mono ?_
    rintro e w1 ⟨rfl, hb⟩
    have bw1 := bW.trans (hb.mono bW.size)
    replace B1 := B1.kept hb
    clear hb C1 hW bW W
    go_wp2
    go_ret2
    exact ⟨rfl, bw1⟩
   ·have h2 : ((cB xs bit m : Nat) : Int) ≤ k := by omega
    clear h0
    generalize cB xs bit m = Z at *
    go_enter Tryz.func38, Tryz.ntmps38
    go_wp2_with fail
    rw [← hW]
    refine (C1.out _ rfl).mono ?_
    rintro e w1 ⟨rfl, hb⟩
    have bw1 := bW.trans (hb.mono bW.size)
    replace B1 := B1.kept hb
    clear hb C1 hW bW W
    have x0 := B1.cell 0 rfl
    have x1 := B1.cell 1 rfl
    have x2 := B1.cell 2 rfl
    have x3 := B1.cell 3 rfl
    go_wp2_with fail
    refine (C2.out _ bw1).mono ?_
    rintro e w2 ⟨rfl, hb⟩
    have bw2 := bw1.trans (hb.mono bw1.size)
    clear hb
    go_wp2
    go_ret2
    exact ⟨rfl, bw2⟩
end Go.Proofs.YtpeecabfcgijhaaGreatDoor
