/-
  The contracts of Offset and Block.
-/
import Derived.Test.YtjbabnnibocdfaaBp
import Derived.WalkMore
namespace Go.Proofs.Ytjbabnnibocdfaa
open Go.RowKit Num Bn Ow
set_option linter.unusedVariables false
set_option linter.unusedSimpArgs false
set_option maxRecDepth 100000

set_option maxHeartbeats 2000000 in
theorem offset_c (x : Nat) (n : Int) (hx : x < 18446744073709551616) (hn : -9223372036854775808 ≤ n ∧ n ≤ 9223372036854775807) (w : World) :
    Calls Try.prog 13 #[.int .u64 x, .int .i64 n] w fun e w' => e = .returned (.tuple #[.int .i64 (ofK x n), .int .u64 (ofO x n)]) ∧ Below w.heap.size w w' := by
  by_cases hw : n < 0 ∨ 62 < n
  · rw [show ofK x n = 0 by unfold ofK; rw [if_pos hw], show ofO x n = 0 by unfold ofO; rw [if_pos hw]]
    have W : Hid (∀ w, Calls Try.prog 19 #[.int .i64 n] w fun e w' => e = .returned (.bool false) ∧ w' = w) := within_out n hw
    clear hw
    go_enter Try.func13, Try.ntmps13
    go_wp2_with fail
    refine (W.out _).mono ?_
    rintro e w1 ⟨rfl, hw1⟩
    rw [hw1]
    clear hw1 w1
    go_wp2
    go_ret2
    exact ⟨rfl, Below.refl _ _⟩
  have W : Hid (∀ w, Calls Try.prog 19 #[.int .i64 n] w fun e w' => e = .returned (.bool true) ∧ w' = w) := within_in n (by omega) (by omega)
  rw [show ofK x n = cnt x n.toNat by unfold ofK; rw [if_neg hw], show ofO x n = off x n.toNat by unfold ofO; rw [if_neg hw]]
  obtain ⟨m, rfl⟩ := Int.eq_ofNat_of_zero_le (show 0 ≤ n by omega)
  rw [Int.toNat_natCast]
  have hm : m ≤ 62 := by omega
  clear hw
  have R : Hid (∀ w, Calls Try.prog 20 #[.int .i64 0] w fun e w' => e = .returned (.agg (wv (rowP 62 0)).toArray) ∧ Below w.heap.size w w') := rowOf_c 0 (by omega)
  have G : Hid (∀ (g i : Nat), i < 62 → ∀ w, Cel w g (wv (rowP 62 i)) 38 → Calls Try.prog 23 #[.pointer (some ⟨g, 0, none⟩), .int .i64 i] w fun e w' => e = .returned (.tuple #[]) ∧ Cel w' g (wv (rowP 62 (i + 1))) 38 ∧ Below g w w') := grow_c
  have x0 : (0 : Int) ≤ (x : Int) := by omega
  go_enter Try.func13, Try.ntmps13
  go_wp2_with fail
  refine (W.out _).mono ?_
  rintro e w1 ⟨rfl, hw1⟩
  rw [hw1]
  clear hw1 w1 W
  go_wp2_with fail
  refine (R.out _).mono ?_
  rintro e w1 ⟨rfl, hb1⟩
  go_wp2_with (refine alloc_row ?_)
  intro w2 hc2 hb2 hs2
  go_wp2_with (refine store_row w1.heap.size _ _ rfl rfl hc2 (by simp) (length_rowP 62 0) ?_)
  intro w3 hc3 hb3
  have hB := (hb1.trans (hb2.mono hb1.size)).trans (hb3.mono hb1.size)
  have hg : w.heap.size ≤ w1.heap.size := hb1.size
  clear hb1 hc2 hb2 hs2 hb3 w2 R
  go_wp2
  generalize w1.heap.size = g at *
  clear w1
  go_loopw [6, 7, 9, 15] (fun c l _ i wr => ∃ p : Nat, p ≤ m ∧ i = .int .i64 p ∧ c = .int .i64 (cnt x p) ∧ l = .int .u64 (off x p) ∧ Cel wr g (wv (rowP 62 p)) 38 ∧ Below w.heap.size w wr) (fun _ _ _ i _ => m - (intOf i).toNat)
  case atStart => exact ⟨0, Nat.zero_le _, rfl, rfl, rfl, hc3, hB⟩
  case round =>
    obtain ⟨q, hq, rfl, rfl, rfl, hc, hb⟩ := hrel
    clear hc3 hB
    obtain ⟨c, hcq⟩ : ∃ c, Hid (c = cnt x q) := ⟨_, rfl⟩
    obtain ⟨O, hOq⟩ : ∃ O, Hid (O = off x q) := ⟨_, rfl⟩
    have c62 : c ≤ q := by rw [hcq.out]; exact cnt_le x q
    have lt := off_lt x q
    have l62 := ch62 q (cnt x q) (by omega)
    have bO : O < 4611686018427387904 := by rw [hOq.out]; omega
    rw [← hcq.out, ← hOq.out]
    clear lt l62
    by_cases hp : q < m
    · have hp2 : (q : Int) < (m : Int) := by omega
      have q64 : (q : Int) < 64 := by omega
      have D : Hid (∀ w, Cel w g (wv (rowP 62 q)) 38 → Calls Try.prog 23 #[.pointer (some ⟨g, 0, none⟩), .int .i64 q] w fun e w' => e = .returned (.tuple #[]) ∧ Cel w' g (wv (rowP 62 (q + 1))) 38 ∧ Below g w w') := G.out g q (by omega)
      by_cases hbit : x / 2 ^ q % 2 = 1
      · have T : bits .and .u64 ((x : Int) / 2 ^ q) 1 = 1 := by rw [bit_and _ _ x0 (by omega), Int.toNat_natCast, hbit]; rfl
        have ec : cnt x (q + 1) = c + 1 := by rw [cnt, hbit, hcq.out]
        have eo : off x (q + 1) = O + ch q (c + 1) := by rw [off, if_pos hbit, ec, hOq.out]
        have e1 := cel_wv hc (c + 1) (by rw [length_rowP]; omega)
        rw [gt_rowP _ _ _ (by omega)] at e1
        have b1 := ch62 q (c + 1) (by omega)
        have HC : Hid (cnt x (q + 1) = c + 1) := ec
        have l1 : (c : Int) + 1 < 63 := by omega
        have ez : ((c : Int) + 1).toNat = c + 1 := by omega
        generalize ch q (c + 1) = Z at *
        have HO : Hid (off x (q + 1) = O + Z) := eo
        clear ec eo
        have HCel : Hid (Cel wr g (wv (rowP 62 q)) 38) := hc
        clear hc G
        go_wp2_with fail
        refine (D.out _ HCel.out).mono ?_
        rintro e w4 ⟨rfl, hc4, hb4⟩
        have hb5 := hb.trans (hb4.mono hg)
        clear hb hb4 e1
        go_wp2
        exact ⟨⟨q + 1, by omega, by go_num, by rw [HC.out]; go_num, by rw [HO.out]; go_num, hc4, hb5⟩, by simp only [intOf]; omega⟩
      · have T : bits .and .u64 ((x : Int) / 2 ^ q) 1 = 0 := by rw [bit_and _ _ x0 (by omega), Int.toNat_natCast, show x / 2 ^ q % 2 = 0 by omega]; rfl
        have HC : Hid (cnt x (q + 1) = c) := by show _ = _; rw [cnt, hcq.out]; omega
        have HO : Hid (off x (q + 1) = O) := by show _ = _; rw [off, if_neg hbit, hOq.out, Nat.add_zero]
        have HCel : Hid (Cel wr g (wv (rowP 62 q)) 38) := hc
        clear hc G
        go_wp2_with fail
        refine (D.out _ HCel.out).mono ?_
        rintro e w4 ⟨rfl, hc4, hb4⟩
        have hb5 := hb.trans (hb4.mono hg)
        clear hb hb4
        go_wp2
        exact ⟨⟨q + 1, by omega, by go_num, by rw [HC.out], by rw [HO.out], hc4, hb5⟩, by simp only [intOf]; omega⟩
    · obtain rfl : q = m := by omega
      clear G
      go_wp2
      go_ret2
      rw [← hcq.out, ← hOq.out]
      exact ⟨rfl, hb⟩

set_option maxHeartbeats 2000000 in
theorem sought_c (a b o : Nat) (ha : a ≤ 62) (hba : b ≤ a) (ho : o < ch a b) (w : World) :
    Calls Try.prog 22 #[.int .i64 a, .int .i64 b, .int .u64 o] w fun e w' => e = .returned (.int .u64 (blk a b o)) ∧ Below w.heap.size w w' := by
  have R : Hid (∀ w, Calls Try.prog 20 #[.int .i64 a] w fun e w' => e = .returned (.agg (wv (rowP 62 a)).toArray) ∧ Below w.heap.size w w') := rowOf_c a ha
  have HSo : Hid (o < ch a b) := ho
  clear ho
  go_enter Try.func22, Try.ntmps22
  go_wp2_with fail
  go_step3
  go_wp2_with fail
  refine (R.out _).mono ?_
  rintro e w1 ⟨rfl, hb1⟩
  go_wp2_with (refine alloc_row ?_)
  intro w2 hc2 hb2 hs2
  go_wp2_with (refine store_row w1.heap.size _ _ rfl rfl hc2 (by simp) (length_rowP 62 a) ?_)
  intro w3 hc3 hb3
  have hB := (hb1.trans (hb2.mono hb1.size)).trans (hb3.mono hb1.size)
  have hg : w.heap.size ≤ w1.heap.size := hb1.size
  clear hb1 hc2 hb2 hs2 hb3 w2 R
  simp only [Act.put, List.setIfInBounds_toArray, List.set]
  go_wp2
  go_step3
  go_wp2
  generalize w1.heap.size = g at *
  clear w1
  go_loopw [1, 2, 7, 8] (fun kv ov xv pv wr => ∃ P K O X : Nat, P ≤ a ∧ K ≤ 62 ∧ kv = .int .i64 K ∧ ov = .int .u64 O ∧ xv = .int .u64 X ∧ pv = .int .i64 P ∧ Hid (O < ch P K ∧ X + blk P K O = blk a b o ∧ X % 2 ^ P = 0) ∧ Cel wr g (wv (rowP 62 P)) 38 ∧ Below w.heap.size w wr) (fun kv _ _ _ _ => (intOf kv).toNat)
  case atStart => exact ⟨a, b, o, 0, Nat.le_refl _, by omega, rfl, rfl, rfl, rfl, ⟨HSo.out, by omega, by simp⟩, hc3, hB⟩
  case round =>
    obtain ⟨P, K, O, X, hP, hK, rfl, rfl, rfl, rfl, hinv, hc, hb⟩ := hrel
    clear hc3 hB HSo
    by_cases hK0 : K = 0
    · subst hK0
      have HX : Hid (X = blk a b o) := by
        have := hinv.out.2.1
        rw [blk_zero] at this
        exact this
      clear hinv
      go_wp2
      (try rw [Exit.noGoto_ret])
      go_ret
      rw [← HX.out]
      exact ⟨rfl, hb⟩
    have hK1 : (0 : Int) < (K : Int) := by omega
    have hK2 : 0 < K := by omega
    have k63 : (K : Int) < 63 := by omega
    go_wp2
    go_loopw [2, 7, 8] (fun ov xv pv wz => ∃ P : Nat, P ≤ a ∧ ov = .int .u64 O ∧ xv = .int .u64 X ∧ pv = .int .i64 P ∧ Hid (O < ch P K ∧ X + blk P K O = blk a b o ∧ X % 2 ^ P = 0) ∧ Cel wz g (wv (rowP 62 P)) 38 ∧ Below w.heap.size w wz) (fun _ _ pv _ => (intOf pv).toNat)
    case atStart => exact ⟨P, hP, rfl, rfl, rfl, hinv, hc, hb⟩
    case round =>
      obtain ⟨Q, hQ, rfl, rfl, rfl, hin2, hcz, hbz⟩ := hrel
      clear hinv hc hb
      have Q0 : Q ≠ 0 := by
        intro e
        subst e
        have := hin2.out.1
        rw [ch_out 0 K (by omega)] at this
        omega
      obtain ⟨q, rfl⟩ : ∃ q, Q = q + 1 := ⟨Q - 1, by omega⟩
      have q0 : (0 : Int) < ((q + 1 : Nat) : Int) := by omega
      have S : Hid (∀ w, Cel w g (wv (rowP 62 (q + 1))) 38 → Calls Try.prog 26 #[.pointer (some ⟨g, 0, none⟩), .int .i64 ((q + 1 : Nat) : Int)] w fun e w' => e = .returned (.tuple #[]) ∧ Cel w' g (wv (rowP 62 q)) 38 ∧ Below g w w') := fun w h => shrink_c g (q + 1) (by omega) (by omega) w h
      have HCz : Hid (Cel wr g (wv (rowP 62 (q + 1))) 38) := hcz
      clear hcz
      go_wp2_with fail
      refine (S.out _ HCz.out).mono ?_
      rintro e w4 ⟨rfl, hc4, hb4⟩
      have hb5 := hbz.trans (hb4.mono hg)
      clear hbz hb4 HCz S
      have ez : ((q + 1 : Nat) : Int) = (q : Int) + 1 := by omega
      rw [ez]
      have q64 : (q : Int) < 64 := by omega
      have e1 := cel_wv hc4 K (by rw [length_rowP]; omega)
      rw [gt_rowP _ _ _ (by omega)] at e1
      have HC4 : Hid (Cel w4 g (wv (rowP 62 q)) 38) := hc4
      clear hc4
      obtain ⟨hlt, hX, hM⟩ := hin2.out
      clear hin2
      have bO : O < 4611686018427387904 := by have := ch62 (q + 1) K (by omega); omega
      have bX : X < 4611686018427387904 := by
        have := blk_lt a b o
        have : 2 ^ a ≤ 2 ^ 62 := Nat.pow_le_pow_right (by decide) ha
        omega
      by_cases hge : ch q K ≤ O
      · have H : Hid (O - ch q K < ch q (K - 1) ∧ X + 2 ^ q + blk q (K - 1) (O - ch q K) = blk a b o ∧ (X + 2 ^ q) % 2 ^ q = 0) := by
          refine ⟨?_, ?_, mod_plus X q hM⟩
          · obtain ⟨j, rfl⟩ : ∃ j, K = j + 1 := ⟨K - 1, by omega⟩
            rw [ch_succ] at hlt
            rw [Nat.add_sub_cancel]
            omega
          · rw [blk_hi q K O hK0 hge] at hX
            omega
        have HR : Hid (bits .or .u64 (X : Int) (IntKind.u64.wrap (2 ^ q)) = ((X + 2 ^ q : Nat) : Int)) := by
          show bits .or .u64 (X : Int) (IntKind.u64.wrap (2 ^ q)) = ((X + 2 ^ q : Nat) : Int)
          rw [shl_one q (by omega), u64_or_nat _ _ (by omega) (two_pow_lt q (by omega)), or_high X q hM]
        have hge2 : ((ch q K : Nat) : Int) ≤ (O : Int) := by omega
        clear hX hM hlt
        generalize ch q K = Z at *
        go_wp2
        exact ⟨⟨q, K - 1, O - Z, X + 2 ^ q, by omega, by omega, by go_num, by go_num, congrArg (Value.int .u64) HR.out, by go_num, H, HC4.out, hb5⟩, by simp only [intOf]; omega⟩
      · have H : Hid (O < ch q K ∧ X + blk q K O = blk a b o ∧ X % 2 ^ q = 0) := by
          refine ⟨by omega, ?_, mod_down X q hM⟩
          rw [blk_lo q K O hK0 hge] at hX
          exact hX
        have hge2 : ¬ ((ch q K : Nat) : Int) ≤ (O : Int) := by omega
        clear hX hM hlt
        generalize hZ : ch q K = Z at *
        go_wp2
        exact ⟨⟨q, by omega, rfl, rfl, by go_num, hZ ▸ H, HC4.out, hb5⟩, by simp only [intOf]; omega⟩

set_option maxHeartbeats 2000000 in
theorem block_c (n k : Int) (o : Nat) (hn : -9223372036854775808 ≤ n ∧ n ≤ 9223372036854775807) (hk : -9223372036854775808 ≤ k ∧ k ≤ 9223372036854775807) (ho : o < 18446744073709551616) (w : World) :
    Calls Try.prog 12 #[.int .i64 n, .int .i64 k, .int .u64 o] w fun e w' => e = .returned (.tuple #[.int .u64 (bkX n k o), .bool (bkB n k o)]) ∧ Below w.heap.size w w' := by
  have C : Hid (∀ w0, Calls Try.prog 9 #[.int .i64 n, .int .i64 k] w0 fun e w' => e = .returned (.int .u64 (chN n k)) ∧ Below w0.heap.size w0 w') := fun w0 => choose_c n k hn hk w0
  by_cases hc : chN n k ≤ o
  · rw [show bkX n k o = 0 by unfold bkX; rw [if_pos hc], show bkB n k o = false by unfold bkB; simp; omega]
    have hc2 : (chN n k : Int) ≤ (o : Int) := by omega
    generalize chN n k = Z at *
    go_enter Try.func12, Try.ntmps12
    go_wp2_with fail
    refine (C.out _).mono ?_
    rintro e w1 ⟨rfl, hb⟩
    go_wp2
    go_ret2
    exact ⟨rfl, hb⟩
  · have hin : ¬ (n < 0 ∨ 62 < n ∨ k < 0 ∨ n < k) := by
      intro h
      apply hc
      unfold chN
      rw [if_pos h]
      omega
    have eC : chN n k = ch n.toNat k.toNat := by unfold chN; rw [if_neg hin]
    rw [show bkX n k o = blk n.toNat k.toNat o by unfold bkX; rw [if_neg hc], show bkB n k o = true by unfold bkB; simp; omega]
    obtain ⟨a, rfl⟩ := Int.eq_ofNat_of_zero_le (show 0 ≤ n by omega)
    obtain ⟨b, rfl⟩ := Int.eq_ofNat_of_zero_le (show 0 ≤ k by omega)
    rw [Int.toNat_natCast, Int.toNat_natCast] at *
    have S : Hid (∀ w, Calls Try.prog 22 #[.int .i64 a, .int .i64 b, .int .u64 o] w fun e w' => e = .returned (.int .u64 (blk a b o)) ∧ Below w.heap.size w w') := sought_c a b o (by omega) (by omega) (by omega)
    have hc2 : ¬ ((chN a b : Nat) : Int) ≤ (o : Int) := by omega
    clear hin eC
    generalize chN a b = Z at *
    obtain ⟨B, hB⟩ : ∃ B, Hid (B = blk a b o) := ⟨_, rfl⟩
    rw [← hB.out] at S
    go_enter Try.func12, Try.ntmps12
    go_wp2_with fail
    refine (C.out _).mono ?_
    rintro e w1 ⟨rfl, hb⟩
    clear C
    go_wp2_with fail
    refine (S.out _).mono ?_
    rintro e w2 ⟨rfl, hb2⟩
    have hb3 := hb.trans (hb2.mono hb.size)
    clear S hb hb2
    go_wp2
    go_ret2
    rw [← hB.out]
    exact ⟨rfl, hb3⟩
end Go.Proofs.Ytjbabnnibocdfaa
