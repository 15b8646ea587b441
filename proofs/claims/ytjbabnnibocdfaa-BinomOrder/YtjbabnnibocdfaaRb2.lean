/-
  The contracts of the document's Width, Offset and Block.
-/
import Derived.Test.YtjbabnnibocdfaaRb
namespace Go.Proofs.Ytjbabnnibocdfaa
open Go.RowKit Num Bn
namespace Ow
set_option linter.unusedVariables false
set_option linter.unusedSimpArgs false
set_option maxRecDepth 100000

set_option maxHeartbeats 2000000 in
theorem rwidth_c (n k : Int) (w : World) :
    Calls Try.prog 17 #[.int .i64 n, .int .i64 k] w fun e w' => e = .returned (.int .i64 (wdN n k)) ∧ Below w.heap.size w w' := by
  have C : Hid (∀ w0, Calls Try.prog 16 #[.int .i64 n, .int .i64 k] w0 fun e w' => e = .returned (.int .u64 (chN n k)) ∧ Below w0.heap.size w0 w') := fun w0 => rchoose_c n k w0
  have b := chN_le n k
  unfold wdN
  generalize chN n k = c at *
  by_cases h0 : c = 0
  · subst h0
    rw [if_pos rfl]
    go_enter Try.func17, Try.ntmps17
    go_wp2_with fail
    refine (C.out _).mono ?_
    rintro e w1 ⟨rfl, hb⟩
    go_wp2
    go_ret
    exact ⟨rfl, hb⟩
  · rw [if_neg h0]
    obtain ⟨d, rfl⟩ : ∃ d, c = d + 1 := ⟨c - 1, by omega⟩
    rw [Nat.add_sub_cancel]
    have L : Hid (∀ w0, Calls Try.prog 18 #[.int .u64 d] w0 fun e w' => e = .returned (.int .i64 (Go.bitLen d)) ∧ w' = w0) := fun w0 => by
      have := reflen_c (d : Int) (by omega) (by omega) w0
      unfold lenI at this
      rw [Int.toNat_natCast] at this
      exact this
    have c1 : (((d + 1 : Nat) : Int) == 0) = false := by simp; omega
    generalize Go.bitLen d = Z at *
    go_enter Try.func17, Try.ntmps17
    go_wp2_with fail
    refine (C.out _).mono ?_
    rintro e w1 ⟨rfl, hb⟩
    have e2 : ((d + 1 : Nat) : Int) = (d : Int) + 1 := by omega
    rw [e2]
    go_wp2_with fail
    refine (L.out _).mono ?_
    rintro e w2 ⟨rfl, h2⟩
    rw [h2]
    clear h2 w2
    go_wp2
    go_ret
    exact ⟨rfl, hb⟩

set_option maxHeartbeats 2000000 in
theorem roffset_c (x : Nat) (n : Int) (hx : x < 18446744073709551616) (h0 : -9223372036854775808 ≤ n) (h1 : n ≤ 9223372036854775807) (w : World) :
    Calls Try.prog 14 #[.int .u64 x, .int .i64 n] w fun e w' => e = .returned (.tuple #[.int .i64 (ofK x n), .int .u64 (ofO x n)]) ∧ Below w.heap.size w w' := by
  by_cases hn : n < 0
  · rw [show ofK x n = 0 by unfold ofK; rw [if_pos (.inl hn)], show ofO x n = 0 by unfold ofO; rw [if_pos (.inl hn)]]
    go_enter Try.func14, Try.ntmps14
    go_wp2
    go_ret2
    exact ⟨rfl, Below.refl _ _⟩
  by_cases hn2 : 62 < n
  · rw [show ofK x n = 0 by unfold ofK; rw [if_pos (.inr hn2)], show ofO x n = 0 by unfold ofO; rw [if_pos (.inr hn2)]]
    go_enter Try.func14, Try.ntmps14
    go_wp2
    go_ret2
    exact ⟨rfl, Below.refl _ _⟩
  rw [show ofK x n = cnt x n.toNat by unfold ofK; rw [if_neg (by omega)], show ofO x n = off x n.toNat by unfold ofO; rw [if_neg (by omega)]]
  obtain ⟨m, rfl⟩ := Int.eq_ofNat_of_zero_le (show 0 ≤ n by omega)
  rw [Int.toNat_natCast]
  have hm : m ≤ 62 := by omega
  have R : Hid (∀ w0, Calls Try.prog 24 #[.int .u64 x, .int .i64 m] w0 fun e w' => e = .returned (.int .i64 (cnt x m)) ∧ w' = w0) := fun w0 => by
    have := refrank_c (x : Int) (m : Int) (by omega) (by omega) (by omega) (by omega) w0
    unfold rankI at this
    rw [Int.toNat_natCast, Int.toNat_natCast, Nat.min_eq_left (by omega)] at this
    exact this
  have x0 : (0 : Int) ≤ (x : Int) := by omega
  have C : Hid (∀ w0 (p : Nat), p < m → Calls Try.prog 16 #[.int .i64 p, .int .i64 (cnt x (p + 1))] w0 fun e w' => e = .returned (.int .u64 (ch p (cnt x (p + 1)))) ∧ Below w0.heap.size w0 w') := fun w0 p hp => by
    have := rchoose_c p (cnt x (p + 1)) w0
    rw [chN_in p _ (by omega)] at this
    exact this
  go_enter Try.func14, Try.ntmps14
  go_wp2_with fail
  refine (R.out _).mono ?_
  rintro e w1 ⟨rfl, hw1⟩
  rw [hw1]
  clear hw1 w1 R
  obtain ⟨K, hK⟩ : ∃ K, Hid (K = cnt x m) := ⟨_, rfl⟩
  rw [← hK.out]
  go_wp2
  go_loopw [7, 8, 9] (fun o l i wr => ∃ p O : Nat, p ≤ m ∧ i = .int .i64 ((p : Int) - 1) ∧ l = .int .i64 (cnt x p) ∧ o = .int .u64 O ∧ O + off x p = off x m ∧ Below w.heap.size w wr) (fun _ _ i _ => (intOf i + 1).toNat)
  case atStart => exact ⟨m, 0, Nat.le_refl _, by go_num, by rw [hK.out], rfl, by omega, Below.refl _ _⟩
  case round =>
    obtain ⟨p, O, hp, rfl, rfl, rfl, hO, hwr⟩ := hrel
    by_cases hp0 : p = 0
    · subst hp0
      have HO : Hid (O = off x m) := hO
      clear hO
      go_wp2
      go_ret2
      rw [← HO.out, ← hK.out]
      exact ⟨rfl, hwr⟩
    · obtain ⟨q, rfl⟩ : ∃ q, p = q + 1 := ⟨p - 1, by omega⟩
      have e1 : ((q + 1 : Nat) : Int) - 1 = (q : Int) := by omega
      rw [e1]
      have q64 : (q : Int) < 64 := by omega
      have lt := off_lt x m
      have l62 := ch62 m (cnt x m) hm
      by_cases hb : x / 2 ^ q % 2 = 1
      · have T : ((x : Int) / 2 ^ q).tmod 2 = 1 := by rw [bit_tmod _ _ x0, Int.toNat_natCast, hb]; rfl
        have ec : cnt x (q + 1) = cnt x q + 1 := by rw [cnt, hb]
        have eo : off x (q + 1) = off x q + ch q (cnt x (q + 1)) := by rw [off, if_pos hb]
        have D : Hid (∀ w0, Calls Try.prog 16 #[.int .i64 q, .int .i64 (cnt x (q + 1))] w0 fun e w' => e = .returned (.int .u64 (ch q (cnt x (q + 1)))) ∧ Below w0.heap.size w0 w') := fun w0 => C.out w0 q (by omega)
        rw [eo] at hO
        generalize ch q (cnt x (q + 1)) = Z at *
        have HO : Hid (O + Z + off x q = off x m) := by show O + Z + off x q = off x m; omega
        have bO : O + Z < 4611686018427387904 := by omega
        obtain ⟨c, hc⟩ : ∃ c, Hid (c = cnt x q) := ⟨_, rfl⟩
        have ec2 : ((cnt x (q + 1) : Nat) : Int) = (c : Int) + 1 := by rw [hc.out, ec]; omega
        rw [ec2] at D
        rw [ec2]
        have c64 : c ≤ 62 := by rw [hc.out]; have := cnt_le x q; omega
        clear ec eo hO lt l62 C ec2
        go_wp2_with fail
        refine (D.out _).mono ?_
        rintro e w2 ⟨rfl, hb2⟩
        have hw2 := hwr.trans (hb2.mono hwr.size)
        clear D hb2 hwr
        go_wp2
        exact ⟨⟨q, O + Z, by omega, by go_num, by rw [← hc.out], by go_num, HO.out, hw2⟩, by simp only [intOf]; omega⟩
      · have T : ((x : Int) / 2 ^ q).tmod 2 = 0 := by rw [bit_tmod _ _ x0, Int.toNat_natCast, show x / 2 ^ q % 2 = 0 by omega]; rfl
        have ec : cnt x (q + 1) = cnt x q := by rw [cnt]; omega
        have HO : Hid (O + off x q = off x m) := by
          rw [off, if_neg hb] at hO
          exact hO
        rw [ec]
        clear ec hO lt l62 C
        go_wp2
        exact ⟨⟨q, O, by omega, by go_num, rfl, rfl, HO.out, hwr⟩, by simp only [intOf]; omega⟩

theorem shl_one (k : Nat) (h : k < 64) : IntKind.u64.wrap ((2 : Int) ^ k) = ((2 ^ k : Nat) : Int) := by
  have e : ((2 : Int) ^ k) = ((2 ^ k : Nat) : Int) := by rw [Int.natCast_pow]; rfl
  have := two_pow_lt k h
  rw [e, IntKind.wrap_u64]
  generalize (2 ^ k : Nat) = Z at *
  omega
theorem or_high (X p : Nat) (h : X % 2 ^ (p + 1) = 0) : X ||| 2 ^ p = X + 2 ^ p := by
  have e : X = 2 ^ (p + 1) * (X / 2 ^ (p + 1)) := by
    have := Nat.div_add_mod X (2 ^ (p + 1))
    omega
  have lt : 2 ^ p < 2 ^ (p + 1) := by rw [Nat.pow_succ]; have := Nat.two_pow_pos p; omega
  rw [e]
  exact (Nat.two_pow_add_eq_or_of_lt lt _).symm
theorem mod_down (X p : Nat) (h : X % 2 ^ (p + 1) = 0) : X % 2 ^ p = 0 := by
  have := mod_bit X p
  have q := Nat.two_pow_pos p
  omega
theorem mod_plus (X p : Nat) (h : X % 2 ^ (p + 1) = 0) : (X + 2 ^ p) % 2 ^ p = 0 := by
  rw [Nat.add_mod_right]
  exact mod_down X p h

set_option maxHeartbeats 2000000 in
theorem rblock_c (n k : Int) (o : Nat) (ho : o < 18446744073709551616) (w : World) :
    Calls Try.prog 15 #[.int .i64 n, .int .i64 k, .int .u64 o] w fun e w' => e = .returned (.tuple #[.int .u64 (bkX n k o), .bool (bkB n k o)]) ∧ Below w.heap.size w w' := by
  have C : Hid (∀ w0, Calls Try.prog 16 #[.int .i64 n, .int .i64 k] w0 fun e w' => e = .returned (.int .u64 (chN n k)) ∧ Below w0.heap.size w0 w') := fun w0 => rchoose_c n k w0
  by_cases hc : chN n k ≤ o
  · rw [show bkX n k o = 0 by unfold bkX; rw [if_pos hc], show bkB n k o = false by unfold bkB; simp; omega]
    have hc2 : (chN n k : Int) ≤ (o : Int) := by omega
    generalize chN n k = Z at *
    go_enter Try.func15, Try.ntmps15
    go_wp2_with fail
    refine (C.out _).mono ?_
    rintro e w1 ⟨rfl, hb⟩
    go_wp2
    go_ret2
    exact ⟨rfl, hb⟩
  · have hin : ¬ (n < 0 ∨ 62 < n ∨ k < 0 ∨ n < k) := by
      intro h
      apply hc
      unfold chN
      rw [if_pos h]
      omega
    rw [show bkX n k o = blk n.toNat k.toNat o by unfold bkX; rw [if_neg hc], show bkB n k o = true by unfold bkB; simp; omega]
    obtain ⟨a, rfl⟩ := Int.eq_ofNat_of_zero_le (show 0 ≤ n by omega)
    obtain ⟨b, rfl⟩ := Int.eq_ofNat_of_zero_le (show 0 ≤ k by omega)
    rw [Int.toNat_natCast, Int.toNat_natCast]
    have ha : a ≤ 62 := by omega
    have hba : b ≤ a := by omega
    have hc2 : ¬ ((chN a b : Nat) : Int) ≤ (o : Int) := by omega
    clear hin
    generalize chN a b = Z at *
    go_enter Try.func15, Try.ntmps15
    go_wp2_with fail
    refine (C.out _).mono ?_
    rintro e w1 ⟨rfl, hb⟩
    clear C
    go_wp2
    go_loopw [1, 2, 8, 9, 10] (fun kv ov xv i cv wr => ∃ p K O X : Nat, p ≤ a ∧ K ≤ 62 ∧ O < 18446744073709551616 ∧ i = .int .i64 ((p : Int) - 1) ∧ kv = .int .i64 K ∧ ov = .int .u64 O ∧ xv = .int .u64 X ∧ (X + blk p K O = blk a b o ∧ X % 2 ^ p = 0) ∧ Below w.heap.size w wr) (fun _ _ _ i _ _ => (intOf i + 1).toNat)
    case atStart => exact ⟨a, b, o, 0, Nat.le_refl _, by omega, ho, by go_num, rfl, rfl, rfl, ⟨by omega, by simp⟩, hb⟩
    case round =>
      obtain ⟨p, K, O, X, hp, hK, hO, rfl, rfl, rfl, rfl, ⟨hX, hM⟩, hwr⟩ := hrel
      have bX : X < 4611686018427387904 := by
        have := blk_lt a b o
        have : 2 ^ a ≤ 2 ^ 62 := Nat.pow_le_pow_right (by decide) ha
        omega
      by_cases hp0 : p = 0
      · subst hp0
        have HX : Hid (X = blk a b o) := hX
        clear hX hM
        go_wp2
        go_ret2
        rw [← HX.out]
        exact ⟨rfl, hwr⟩
      obtain ⟨q, rfl⟩ : ∃ q, p = q + 1 := ⟨p - 1, by omega⟩
      have e1 : ((q + 1 : Nat) : Int) - 1 = (q : Int) := by omega
      rw [e1]
      have q64 : (q : Int) < 64 := by omega
      by_cases hK0 : K = 0
      · subst hK0
        have HX : Hid (X = blk a b o) := by rw [blk_zero] at hX; exact hX
        clear hX hM
        go_wp2
        go_ret2
        rw [← HX.out]
        exact ⟨rfl, hwr⟩
      have hK1 : (0 : Int) < (K : Int) := by omega
      have D : Hid (∀ w0, Calls Try.prog 16 #[.int .i64 q, .int .i64 K] w0 fun e w' => e = .returned (.int .u64 (ch q K)) ∧ Below w0.heap.size w0 w') := fun w0 => by
        have := rchoose_c q K w0
        rw [chN_in q K (by omega)] at this
        exact this
      by_cases hge : ch q K ≤ O
      · have HX : Hid (X + 2 ^ q + blk q (K - 1) (O - ch q K) = blk a b o) := by rw [blk_hi q K O hK0 hge] at hX; show _ = _; omega
        have HM : Hid ((X + 2 ^ q) % 2 ^ q = 0) := mod_plus X q hM
        have HR : Hid (bits .or .u64 (X : Int) (IntKind.u64.wrap (2 ^ q)) = ((X + 2 ^ q : Nat) : Int)) := by
          show bits .or .u64 (X : Int) (IntKind.u64.wrap (2 ^ q)) = ((X + 2 ^ q : Nat) : Int)
          rw [shl_one q (by omega), u64_or_nat _ _ (by omega) (two_pow_lt q (by omega)), or_high X q hM]
        have hge2 : ((ch q K : Nat) : Int) ≤ (O : Int) := by omega
        clear hX hM
        obtain ⟨Z2, hZ2⟩ : ∃ Z2, Hid (Z2 = ch q K) := ⟨_, rfl⟩
        rw [← hZ2.out] at D hge hge2 HX
        go_wp2_with fail
        refine (D.out _).mono ?_
        rintro e w2 ⟨rfl, hb2⟩
        have hw2 := hwr.trans (hb2.mono hwr.size)
        clear D hb2 hwr
        go_wp2
        exact ⟨⟨q, K - 1, O - Z2, X + 2 ^ q, by omega, by omega, by omega, by go_num, by go_num, by go_num, congrArg (Value.int .u64) HR.out, ⟨HX.out, HM.out⟩, hw2⟩, by simp only [intOf]; omega⟩
      · have HX : Hid (X + blk q K O = blk a b o) := by rw [blk_lo q K O hK0 hge] at hX; exact hX
        have HM : Hid (X % 2 ^ q = 0) := mod_down X q hM
        have hge2 : ¬ ((ch q K : Nat) : Int) ≤ (O : Int) := by omega
        clear hX hM
        obtain ⟨Z2, hZ2⟩ : ∃ Z2, Hid (Z2 = ch q K) := ⟨_, rfl⟩
        rw [← hZ2.out] at D hge hge2
        go_wp2_with fail
        refine (D.out _).mono ?_
        rintro e w2 ⟨rfl, hb2⟩
        have hw2 := hwr.trans (hb2.mono hwr.size)
        clear D hb2 hwr
        go_wp2
        exact ⟨⟨q, K, O, X, by omega, hK, hO, by go_num, rfl, rfl, rfl, ⟨HX.out, HM.out⟩, hw2⟩, by simp only [intOf]; omega⟩
end Ow
end Go.Proofs.Ytjbabnnibocdfaa
