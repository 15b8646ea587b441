/-
  The contracts of Offset and Block. The contracts of the small functions of the program's package for rows in blocks. The contract of the program's markOf, and tables of sixteen numbers by value. Arrays by value, and what stays of the tables. The contract of the program's along: each block is handed to a function, which may write where it is told.
-/
import Derived.Test.YtfnkklkdajlhlaaGreatDoorC16
import Derived.WalkMore
import Derived.Test.YtfnkklkdajlhlaaGreatDoorC06
import Derived.Test.YtfnkklkdajlhlaaGreatDoorC03
import Derived.Test.YtfnkklkdajlhlaaGreatDoorC01
import Derived.Deep.WholeRow
import Derived.Laws.ResultCell
set_option linter.unusedVariables false
set_option linter.unusedSimpArgs false
set_option maxRecDepth 100000
set_option maxHeartbeats 16000000
namespace Go.Proofs.YtfnkklkdajlhlaaGreatDoor
open Go.RowKit Num Bn Ow
theorem offset_c (x : Nat) (n : Int) (hx : x < 18446744073709551616) (hn : -9223372036854775808 ≤ n ∧ n ≤ 9223372036854775807) (w : World) :
  Calls Tryz.prog 191 #[.int .u64 x, .int .i64 n] w fun e w' => e = .returned (.tuple #[.int .i64 (ofK x n), .int .u64 (ofO x n)]) ∧ Below w.heap.size w w' := by
 by_cases hw : n < 0 ∨ 62 < n
 ·rw [show ofK x n = 0 by unfold ofK; rw [if_pos hw], show ofO x n = 0 by unfold ofO; rw [if_pos hw]]
  have W : Hid (∀ w, Calls Tryz.prog 202 #[.int .i64 n] w fun e w' => e = .returned (.bool false) ∧ w' = w) := within_out n hw
  clear hw
  go_enter Tryz.func191, Tryz.ntmps191
  go_wp2_with fail
  refine (W.out _).mono ?_
  rintro e w1 ⟨rfl, hw1⟩
  rw [hw1]
  clear hw1 w1
  go_wp2
  go_ret2
  exact ⟨rfl, Below.refl _ _⟩
 have W : Hid (∀ w, Calls Tryz.prog 202 #[.int .i64 n] w fun e w' => e = .returned (.bool true) ∧ w' = w) := within_in n (by omega) (by omega)
 rw [show ofK x n = cnt x n.toNat by unfold ofK; rw [if_neg hw], show ofO x n = off x n.toNat by unfold ofO; rw [if_neg hw]]
 obtain ⟨m, rfl⟩ := Int.eq_ofNat_of_zero_le (show 0 ≤ n by omega)
 rw [Int.toNat_natCast]
 have hm : m ≤ 62 := by omega
 clear hw
 have R : Hid (∀ w, Calls Tryz.prog 203 #[.int .i64 0] w fun e w' => e = .returned (.agg (wv (rowP 62 0)).toArray) ∧ Below w.heap.size w w') := rowOf_c 0 (by omega)
 have G : Hid (∀ (g i : Nat), i < 62 → ∀ w, Cel w g (wv (rowP 62 i)) 233 → Calls Tryz.prog 204 #[.pointer (some ⟨g, 0, none⟩), .int .i64 i] w fun e w' => e = .returned (.tuple #[]) ∧ Cel w' g (wv (rowP 62 (i + 1))) 233 ∧ Below g w w') := grow_c
 have x0 : (0 : Int) ≤ (x : Int) := by omega
 go_enter Tryz.func191, Tryz.ntmps191
 go_wp2_with fail
 refine (W.out _).mono ?_
 rintro e w1 ⟨rfl, hw1⟩
 rw [hw1]
 clear hw1 w1 W
 go_wp2_with fail
 refine (R.out _).mono ?_
 rintro e w1 ⟨rfl, hb1⟩
 go_wp2_with (refine alloc_row ?_)
 intro w2 hc2 hb2 hs2
 go_wp2_with (refine store_row w1.heap.size _ _ rfl rfl hc2 (by simp) (length_rowP 62 0) ?_)
 intro w3 hc3 hb3
 have hB := (hb1.trans (hb2.mono hb1.size)).trans (hb3.mono hb1.size)
 have hg : w.heap.size ≤ w1.heap.size := hb1.size
 clear hb1 hc2 hb2 hs2 hb3 w2 R
 go_wp2
 generalize w1.heap.size = g at *
 clear w1
 go_loopw [6, 7, 9, 15] (fun c l _ i wr => ∃ p : Nat, p ≤ m ∧ i = .int .i64 p ∧ c = .int .i64 (cnt x p) ∧ l = .int .u64 (off x p) ∧ Cel wr g (wv (rowP 62 p)) 233 ∧ Below w.heap.size w wr) (fun _ _ _ i _ => m - (intOf i).toNat)
 case atStart => exact ⟨0, Nat.zero_le _, rfl, rfl, rfl, hc3, hB⟩
 case round =>
  obtain ⟨q, hq, rfl, rfl, rfl, hc, hb⟩ := hrel
  clear hc3 hB
  obtain ⟨c, hcq⟩ : ∃ c, Hid (c = cnt x q) := ⟨_, rfl⟩
  obtain ⟨O, hOq⟩ : ∃ O, Hid (O = off x q) := ⟨_, rfl⟩
  have c62 : c ≤ q := by rw [hcq.out]; exact cnt_le x q
  have lt := off_lt x q
  have l62 := ch62 q (cnt x q) (by omega)
  have bO : O < 4611686018427387904 := by rw [hOq.out]; omega
  rw [← hcq.out, ← hOq.out]
  clear lt l62
  by_cases hp : q < m
  ·have hp2 : (q : Int) < (m : Int) := by omega
   have q64 : (q : Int) < 64 := by omega
   have D : Hid (∀ w, Cel w g (wv (rowP 62 q)) 233 → Calls Tryz.prog 204 #[.pointer (some ⟨g, 0, none⟩), .int .i64 q] w fun e w' => e = .returned (.tuple #[]) ∧ Cel w' g (wv (rowP 62 (q + 1))) 233 ∧ Below g w w') := G.out g q (by omega)
   by_cases hbit : x / 2 ^ q % 2 = 1
   ·have T : bits .and .u64 ((x : Int) / 2 ^ q) 1 = 1 := by rw [bit_and _ _ x0 (by omega), Int.toNat_natCast, hbit]; rfl
    have ec : cnt x (q + 1) = c + 1 := by rw [cnt, hbit, hcq.out]
    have eo : off x (q + 1) = O + ch q (c + 1) := by rw [off, if_pos hbit, ec, hOq.out]
    have e1 := cel_wv hc (c + 1) (by rw [length_rowP]; omega)
    rw [gt_rowP _ _ _ (by omega)] at e1
    have b1 := ch62 q (c + 1) (by omega)
    have HC : Hid (cnt x (q + 1) = c + 1) := ec
    have l1 : (c : Int) + 1 < 63 := by omega
    have ez : ((c : Int) + 1).toNat = c + 1 := by omega
    generalize ch q (c + 1) = Z at *
    have HO : Hid (off x (q + 1) = O + Z) := eo
    clear ec eo
    have HCel : Hid (Cel wr g (wv (rowP 62 q)) 233) := hc
    clear hc G
    go_wp2_with fail
    refine (D.out _ HCel.out).mono ?_
    rintro e w4 ⟨rfl, hc4, hb4⟩
    have hb5 := hb.trans (hb4.mono hg)
    clear hb hb4 e1
    go_wp2
    exact ⟨⟨q + 1, by omega, by go_num, by rw [HC.out]; go_num, by rw [HO.out]; go_num, hc4, hb5⟩, by simp only [intOf]; omega⟩
   ·have T : bits .and .u64 ((x : Int) / 2 ^ q) 1 = 0 := by rw [bit_and _ _ x0 (by omega), Int.toNat_natCast, show x / 2 ^ q % 2 = 0 by omega]; rfl
    have HC : Hid (cnt x (q + 1) = c) := by show _ = _; rw [cnt, hcq.out]; omega
    have HO : Hid (off x (q + 1) = O) := by show _ = _; rw [off, if_neg hbit, hOq.out, Nat.add_zero]
    have HCel : Hid (Cel wr g (wv (rowP 62 q)) 233) := hc
    clear hc G
    go_wp2_with fail
    refine (D.out _ HCel.out).mono ?_
    rintro e w4 ⟨rfl, hc4, hb4⟩
    have hb5 := hb.trans (hb4.mono hg)
    clear hb hb4
    go_wp2
    exact ⟨⟨q + 1, by omega, by go_num, by rw [HC.out], by rw [HO.out], hc4, hb5⟩, by simp only [intOf]; omega⟩
  ·obtain rfl : q = m := by omega
   clear G
   go_wp2
   go_ret2
   rw [← hcq.out, ← hOq.out]
   exact ⟨rfl, hb⟩
theorem sought_c (a b o : Nat) (ha : a ≤ 62) (hba : b ≤ a) (ho : o < ch a b) (w : World) :
  Calls Tryz.prog 199 #[.int .i64 a, .int .i64 b, .int .u64 o] w fun e w' => e = .returned (.int .u64 (blk a b o)) ∧ Below w.heap.size w w' := by
 have R : Hid (∀ w, Calls Tryz.prog 203 #[.int .i64 a] w fun e w' => e = .returned (.agg (wv (rowP 62 a)).toArray) ∧ Below w.heap.size w w') := rowOf_c a ha
 have HSo : Hid (o < ch a b) := ho
 clear ho
 go_enter Tryz.func199, Tryz.ntmps199
 go_wp2_with fail
 go_step3
 go_wp2_with fail
 refine (R.out _).mono ?_
 rintro e w1 ⟨rfl, hb1⟩
 go_wp2_with (refine alloc_row ?_)
 intro w2 hc2 hb2 hs2
 go_wp2_with (refine store_row w1.heap.size _ _ rfl rfl hc2 (by simp) (length_rowP 62 a) ?_)
 intro w3 hc3 hb3
 have hB := (hb1.trans (hb2.mono hb1.size)).trans (hb3.mono hb1.size)
 have hg : w.heap.size ≤ w1.heap.size := hb1.size
 clear hb1 hc2 hb2 hs2 hb3 w2 R
 simp only [Act.put, yq3, List.set]
 go_wp2
 go_step3
 go_wp2
 generalize w1.heap.size = g at *
 clear w1
 go_loopw [1, 2, 7, 8] (fun kv ov xv pv wr => ∃ P K O X : Nat, P ≤ a ∧ K ≤ 62 ∧ kv = .int .i64 K ∧ ov = .int .u64 O ∧ xv = .int .u64 X ∧ pv = .int .i64 P ∧ Hid (O < ch P K ∧ X + blk P K O = blk a b o ∧ X % 2 ^ P = 0) ∧ Cel wr g (wv (rowP 62 P)) 233 ∧ Below w.heap.size w wr) (fun kv _ _ _ _ => (intOf kv).toNat)
 case atStart => exact ⟨a, b, o, 0, Nat.le_refl _, by omega, rfl, rfl, rfl, rfl, ⟨HSo.out, by omega, by simp⟩, hc3, hB⟩
 case round =>
  obtain ⟨P, K, O, X, hP, hK, rfl, rfl, rfl, rfl, hinv, hc, hb⟩ := hrel
  clear hc3 hB HSo
  by_cases hK0 : K = 0
  ·subst hK0
   have HX : Hid (X = blk a b o) := by
    have := hinv.out.2.1
    rw [blk_zero] at this
    exact this
   clear hinv
   go_wp2
   (try rw [Exit.noGoto_ret])
   go_ret
   rw [← HX.out]
   exact ⟨rfl, hb⟩
  have hK1 : (0 : Int) < (K : Int) := by omega
  have hK2 : 0 < K := by omega
  have k63 : (K : Int) < 63 := by omega
  go_wp2
  go_loopw [2, 7, 8] (fun ov xv pv wz => ∃ P : Nat, P ≤ a ∧ ov = .int .u64 O ∧ xv = .int .u64 X ∧ pv = .int .i64 P ∧ Hid (O < ch P K ∧ X + blk P K O = blk a b o ∧ X % 2 ^ P = 0) ∧ Cel wz g (wv (rowP 62 P)) 233 ∧ Below w.heap.size w wz) (fun _ _ pv _ => (intOf pv).toNat)
  case atStart => exact ⟨P, hP, rfl, rfl, rfl, hinv, hc, hb⟩
  case round =>
   obtain ⟨Q, hQ, rfl, rfl, rfl, hin2, hcz, hbz⟩ := hrel
   clear hinv hc hb
   have Q0 : Q ≠ 0 := by
    intro e
    subst e
    have := hin2.out.1
    rw [ch_out 0 K (by omega)] at this
    omega
   obtain ⟨q, rfl⟩ : ∃ q, Q = q + 1 := ⟨Q - 1, by omega⟩
   have q0 : (0 : Int) < ((q + 1 : Nat) : Int) := by omega
   have S : Hid (∀ w, Cel w g (wv (rowP 62 (q + 1))) 233 → Calls Tryz.prog 209 #[.pointer (some ⟨g, 0, none⟩), .int .i64 ((q + 1 : Nat) : Int)] w fun e w' => e = .returned (.tuple #[]) ∧ Cel w' g (wv (rowP 62 q)) 233 ∧ Below g w w') := fun w h => shrink_c g (q + 1) (by omega) (by omega) w h
   have HCz : Hid (Cel wr g (wv (rowP 62 (q + 1))) 233) := hcz
   clear hcz
   go_wp2_with fail
   refine (S.out _ HCz.out).mono ?_
   rintro e w4 ⟨rfl, hc4, hb4⟩
   have hb5 := hbz.trans (hb4.mono hg)
   clear hbz hb4 HCz S
   have ez : ((q + 1 : Nat) : Int) = (q : Int) + 1 := by omega
   rw [ez]
   have q64 : (q : Int) < 64 := by omega
   have e1 := cel_wv hc4 K (by rw [length_rowP]; omega)
   rw [gt_rowP _ _ _ (by omega)] at e1
   have HC4 : Hid (Cel w4 g (wv (rowP 62 q)) 233) := hc4
   clear hc4
   obtain ⟨hlt, hX, hM⟩ := hin2.out
   clear hin2
   have bO : O < 4611686018427387904 := by have := ch62 (q + 1) K (by omega); omega
   have bX : X < 4611686018427387904 := by
    have := blk_lt a b o
    have : 2 ^ a ≤ 2 ^ 62 := Nat.pow_le_pow_right (by decide) ha
    omega
   by_cases hge : ch q K ≤ O
   ·have H : Hid (O - ch q K < ch q (K - 1) ∧ X + 2 ^ q + blk q (K - 1) (O - ch q K) = blk a b o ∧ (X + 2 ^ q) % 2 ^ q = 0) := by
     refine ⟨?_, ?_, mod_plus X q hM⟩
     ·obtain ⟨j, rfl⟩ : ∃ j, K = j + 1 := ⟨K - 1, by omega⟩
      rw [ch_succ] at hlt
      rw [Nat.add_sub_cancel]
      omega
     ·rw [blk_hi q K O hK0 hge] at hX
      omega
    have HR : Hid (bits .or .u64 (X : Int) (IntKind.u64.wrap (2 ^ q)) = ((X + 2 ^ q : Nat) : Int)) := by
     show bits .or .u64 (X : Int) (IntKind.u64.wrap (2 ^ q)) = ((X + 2 ^ q : Nat) : Int)
     rw [shl_one q (by omega), u64_or_nat _ _ (by omega) (two_pow_lt q (by omega)), or_high X q hM]
    have hge2 : ((ch q K : Nat) : Int) ≤ (O : Int) := by omega
    clear hX hM hlt
    generalize ch q K = Z at *
    go_wp2
    exact ⟨⟨q, K - 1, O - Z, X + 2 ^ q, by omega, by omega, by go_num, by go_num, congrArg (Value.int .u64) HR.out, by go_num, H, HC4.out, hb5⟩, by simp only [intOf]; omega⟩
   ·have H : Hid (O < ch q K ∧ X + blk q K O = blk a b o ∧ X % 2 ^ q = 0) := by
     refine ⟨by omega, ?_, mod_down X q hM⟩
     rw [blk_lo q K O hK0 hge] at hX
     exact hX
    have hge2 : ¬ ((ch q K : Nat) : Int) ≤ (O : Int) := by omega
    clear hX hM hlt
    generalize hZ : ch q K = Z at *
    go_wp2
    exact ⟨⟨q, by omega, rfl, rfl, by go_num, hZ ▸ H, HC4.out, hb5⟩, by simp only [intOf]; omega⟩
theorem block_c (n k : Int) (o : Nat) (hn : -9223372036854775808 ≤ n ∧ n ≤ 9223372036854775807) (hk : -9223372036854775808 ≤ k ∧ k ≤ 9223372036854775807) (ho : o < 18446744073709551616) (w : World) :
  Calls Tryz.prog 175 #[.int .i64 n, .int .i64 k, .int .u64 o] w fun e w' => e = .returned (.tuple #[.int .u64 (bkX n k o), .bool (bkB n k o)]) ∧ Below w.heap.size w w' := by
 have C : Hid (∀ w0, Calls Tryz.prog 198 #[.int .i64 n, .int .i64 k] w0 fun e w' => e = .returned (.int .u64 (chN n k)) ∧ Below w0.heap.size w0 w') := fun w0 => choose_c n k hn hk w0
 by_cases hc : chN n k ≤ o
 ·rw [show bkX n k o = 0 by unfold bkX; rw [if_pos hc], show bkB n k o = false by unfold bkB; simp; omega]
  have hc2 : (chN n k : Int) ≤ (o : Int) := by omega
  generalize chN n k = Z at *
  go_enter Tryz.func175, Tryz.ntmps175
  go_wp2_with fail
  refine (C.out _).mono ?_
  rintro e w1 ⟨rfl, hb⟩
  go_wp2
  go_ret2
  exact ⟨rfl, hb⟩
 ·have hin : ¬ (n < 0 ∨ 62 < n ∨ k < 0 ∨ n < k) := by
   intro h
   apply hc
   unfold chN
   rw [if_pos h]
   omega
  have eC : chN n k = ch n.toNat k.toNat := by unfold chN; rw [if_neg hin]
  rw [show bkX n k o = blk n.toNat k.toNat o by unfold bkX; rw [if_neg hc], show bkB n k o = true by unfold bkB; simp; omega]
  obtain ⟨a, rfl⟩ := Int.eq_ofNat_of_zero_le (show 0 ≤ n by omega)
  obtain ⟨b, rfl⟩ := Int.eq_ofNat_of_zero_le (show 0 ≤ k by omega)
  rw [Int.toNat_natCast, Int.toNat_natCast] at *
  have S : Hid (∀ w, Calls Tryz.prog 199 #[.int .i64 a, .int .i64 b, .int .u64 o] w fun e w' => e = .returned (.int .u64 (blk a b o)) ∧ Below w.heap.size w w') := sought_c a b o (by omega) (by omega) (by omega)
  have hc2 : ¬ ((chN a b : Nat) : Int) ≤ (o : Int) := by omega
  clear hin eC
  generalize chN a b = Z at *
  obtain ⟨B, hB⟩ : ∃ B, Hid (B = blk a b o) := ⟨_, rfl⟩
  rw [← hB.out] at S
  go_enter Tryz.func175, Tryz.ntmps175
  go_wp2_with fail
  refine (C.out _).mono ?_
  rintro e w1 ⟨rfl, hb⟩
  clear C
  go_wp2_with fail
  refine (S.out _).mono ?_
  rintro e w2 ⟨rfl, hb2⟩
  have hb3 := hb.trans (hb2.mono hb.size)
  clear S hb hb2
  go_wp2
  go_ret2
  rw [← hB.out]
  exact ⟨rfl, hb3⟩
end Go.Proofs.YtfnkklkdajlhlaaGreatDoor
namespace Go.Proofs.YtfnkklkdajlhlaaGreatDoor
open Go.RowKit Num Bit Bn
theorem qblocks_c (m : Nat) (hm : m ≤ 1048576) (w : World) :
  Calls Tryz.prog 154 #[.int .i64 m] w fun e w' => e = .returned (.int .i64 (nb m)) ∧ w' = w := by
 go_enter Tryz.func154, Tryz.ntmps154
 go_wp2
 go_ret
 exact ⟨ret_int (by unfold nb; omega), rfl⟩
theorem qgroups_c (n : Nat) (hn : n ≤ 1048576) (w : World) :
  Calls Tryz.prog 157 #[.int .i64 n] w fun e w' => e = .returned (.int .i64 ((max 1 n + 7) / 8 : Nat)) ∧ w' = w := by
 go_enter Tryz.func157, Tryz.ntmps157
 go_wp2
 ·go_ret
  exact ⟨ret_int (by omega), rfl⟩
 ·go_ret
  exact ⟨ret_int (by omega), rfl⟩
theorem qofBit_c (bit : Bool) (i n : Nat) (h : n ≤ i) (hi : i ≤ 2097152) (w : World) :
  Calls Tryz.prog 184 #[.bool bit, .int .i64 i, .int .i64 n] w fun e w' => e = .returned (.int .i64 (obI bit i n : Nat)) ∧ w' = w := by
 unfold obI
 cases bit with
 | true =>
  go_enter Tryz.func184, Tryz.ntmps184
  go_wp2
  go_ret
  exact ⟨rfl, rfl⟩
 | false =>
  go_enter Tryz.func184, Tryz.ntmps184
  go_wp2
  go_ret
  exact ⟨ret_int (by omega), rfl⟩
theorem qbehind_c (s p c wd o : Nat) (hs : s ≤ 16777216) (hp : p ≤ 16777216) (hc : c ≤ 15) (hw : wd ≤ 15) (w : World) :
  Calls Tryz.prog 158 #[.agg #[.int .i64 s, .int .i64 p], .agg #[.int .i64 c, .int .u64 o], .int .i64 wd] w fun e w' => e = .returned (.agg #[.int .i64 (s + c : Nat), .int .i64 (p + wd : Nat)]) ∧ Below w.heap.size w w' := by
 have e1 : IntKind.i64.wrap ((s : Int) + (c : Int)) = ((s + c : Nat) : Int) := by rw [IntKind.wrap_i64]; omega
 have e2 : IntKind.i64.wrap ((p : Int) + (wd : Int)) = ((p + wd : Nat) : Int) := by rw [IntKind.wrap_i64]; omega
 go_enter Tryz.func158, Tryz.ntmps158
 go_wp2
 refine bodyPost_ret (v := .agg #[.int .i64 (s + c : Nat), .int .i64 (p + wd : Nat)]) (by simp [results, Tryz.results158, go_sem]) rfl ⟨rfl, ?_⟩
 exact ((below_alloc w _).alloc (by simp) _).alloc (by simp; omega) _
theorem qwordOf_c (c o : Nat) (hc : c ≤ 15) (ho : o < ch 15 c) (w : World) :
  Calls Tryz.prog 118 #[.agg #[.int .i64 c, .int .u64 o]] w fun e w' => e = .returned (.int .u64 (blk 15 c o : Nat)) ∧ Below w.heap.size w w' := by
 have o62 := ch62 15 c (by decide)
 have e : chN (15 : Int) (c : Int) = ch 15 c := chN_in 15 c (by decide)
 have ex : bkX 15 (c : Int) o = blk 15 c o := by
  unfold bkX
  rw [e, if_neg (by omega)]
  rfl
 have C : Hid (∀ w0, Calls Tryz.prog 175 #[.int .i64 15, .int .i64 (c : Int), .int .u64 o] w0 fun e w' => e = .returned (.tuple #[.int .u64 (blk 15 c o : Nat), .bool (bkB 15 c o)]) ∧ Below w0.heap.size w0 w') := fun w0 => by
  have := block_c 15 (c : Int) o (by decide) (by omega) (by omega) w0
  rw [ex] at this
  exact this
 generalize blk 15 c o = X at *
 generalize bkB 15 (c : Int) o = Y at *
 go_enter Tryz.func118, Tryz.ntmps118
 go_wp2_with fail
 refine (C.out _).mono ?_
 rintro e w1 ⟨rfl, hb⟩
 have hw1 : Below w.heap.size w w1 := (below_alloc w _).trans (hb.mono (by simp))
 clear hb
 go_wp2
 go_ret
 exact ⟨rfl, hw1⟩
theorem qblockOf_c (x : Nat) (hx : x < 18446744073709551616) (w : World) :
  Calls Tryz.prog 156 #[.int .u64 x] w fun e w' => e = .returned (.agg #[.int .i64 (cnt x 15 : Nat), .int .u64 (off x 15 : Nat)]) ∧ Below w.heap.size w w' := by
 have C : Hid (∀ w0, Calls Tryz.prog 191 #[.int .u64 x, .int .i64 15] w0 fun e w' => e = .returned (.tuple #[.int .i64 (cnt x 15 : Nat), .int .u64 (off x 15 : Nat)]) ∧ Below w0.heap.size w0 w') := fun w0 => offset_c x 15 hx (by decide) w0
 generalize cnt x 15 = X at *
 generalize off x 15 = Y at *
 obtain ⟨W, hW⟩ : ∃ W, W = w.alloc (.cells #[.int .i64 0, .int .u64 0] 165) := ⟨_, rfl⟩
 have bW := yb1 hW
 have B1 := yc1 hW
 go_enter Tryz.func156, Tryz.ntmps156
 go_wp2_with fail
 rw [← hW]
 refine (C.out _).mono ?_
 rintro e w1 ⟨rfl, hb⟩
 have hw1 := bW.trans (hb.mono bW.size)
 replace B1 := B1.kept hb
 have f0 := B1.frozen 0
 have f1 := B1.frozen 1
 have c0 := B1.cell 0 rfl
 have c1 := B1.cell 1 rfl
 clear hb hW C
 go_wp2
 refine bodyPost_ret (v := .agg #[.int .i64 (X : Nat), .int .u64 (Y : Nat)]) (by simp [results, Tryz.results156, go_sem, c0, c1]) rfl ⟨rfl, ?_⟩
 exact (hw1.setCell (by simp) _).setCell (by simp) _
theorem qlay_c (ys : List Nat) (g cap p x : Nat) (w : World) (hO : Own w g ys) (hp : p ≤ 2097152) (hf : Fit ys) (hx : x < 18446744073709551616)
  (hR : Room ys p x) :
  Calls Tryz.prog 149 #[.slice (some ⟨g, 0, none⟩) ys.length cap, .int .i64 p, .int .u64 x] w fun e w' => e = .returned (.tuple #[]) ∧ Own w' g (putL ys p x) ∧ Turned g w w' := by
 obtain ⟨h1, h2⟩ := hR
 by_cases c1 : x * 2 ^ (p % 64) % 18446744073709551616 = 0
 ·by_cases c2 : x / 2 ^ (64 - p % 64) = 0
  ·have A : (IntKind.u64.wrap ((x : Int) * 2 ^ (p % 64)) != 0) = false := by rw [shl_nat, bne0]; simpa using c1
   have B : ((x : Int) / 2 ^ (64 - p % 64) != 0) = false := by rw [shr_cast, bne0]; simpa using c2
   have R : Hid (putL ys p x = ys) := by
    unfold putL Hid
    simp only [if_pos c1, if_pos c2]
   have S1 := trivial
   have S2 := trivial
   have S3 : Hid (True) := S1
   have S4 : Hid (True) := S2
   clear h1 h2 c1 c2 S1 S2
   go_enter Tryz.func149, Tryz.ntmps149
   go_wp2
   go_end0
   rw [R.out]
   exact ⟨rfl, hO, Turned.refl _ _⟩
  ·have l2 := h2 c2
   have l2' : (p : Int) / 64 + 1 < (ys.length : Int) := by omega
   have e2 := hO.cell (p / 64 + 1) l2
   have f2 := hO.frozen (p / 64 + 1)
   have A : (IntKind.u64.wrap ((x : Int) * 2 ^ (p % 64)) != 0) = false := by rw [shl_nat, bne0]; simpa using c1
   have B : ((x : Int) / 2 ^ (64 - p % 64) != 0) = true := by rw [shr_cast, bne0]; simpa using c2
   have R : Hid (putL ys p x = (ys.set (p / 64 + 1) (gt ys (p / 64 + 1) ||| x / 2 ^ (64 - p % 64)))) := by
    unfold putL Hid
    simp only [if_pos c1, if_neg c2]
   have S1 := trivial
   have S2 := u64_or_nat (gt ys (p / 64 + 1)) _ (hf _) (Nat.lt_of_le_of_lt (Nat.div_le_self x (2 ^ (64 - p % 64))) hx)
   have S3 : Hid (True) := S1
   have S4 : Hid (bits .or .u64 (gt ys (p / 64 + 1) : Int) ((x / 2 ^ (64 - p % 64) : Nat) : Int) = ((gt ys (p / 64 + 1) ||| x / 2 ^ (64 - p % 64) : Nat) : Int)) := S2
   clear h1 h2 c1 c2 S1 S2
   go_enter Tryz.func149, Tryz.ntmps149
   go_wp2
   go_end0
   rw [R.out, shr_cast, S4.out]
   exact ⟨rfl, hO.set _ _, (Turned.refl _ _).set _ _⟩
 ·by_cases c2 : x / 2 ^ (64 - p % 64) = 0
  ·have l1 := h1 c1
   have l1' : (p : Int) / 64 < (ys.length : Int) := by omega
   have e1 := hO.cell (p / 64) l1
   have f1 := hO.frozen (p / 64)
   have A : (IntKind.u64.wrap ((x : Int) * 2 ^ (p % 64)) != 0) = true := by rw [shl_nat, bne0]; simpa using c1
   have B : ((x : Int) / 2 ^ (64 - p % 64) != 0) = false := by rw [shr_cast, bne0]; simpa using c2
   have R : Hid (putL ys p x = (ys.set (p / 64) (gt ys (p / 64) ||| x * 2 ^ (p % 64) % 18446744073709551616))) := by
    unfold putL Hid
    simp only [if_neg c1, if_pos c2]
   have S1 := u64_or_nat (gt ys (p / 64)) _ (hf _) (Nat.mod_lt (x * 2 ^ (p % 64)) (show 0 < 18446744073709551616 by decide))
   have S2 := trivial
   have S3 : Hid (bits .or .u64 (gt ys (p / 64) : Int) ((x * 2 ^ (p % 64) % 18446744073709551616 : Nat) : Int) = ((gt ys (p / 64) ||| x * 2 ^ (p % 64) % 18446744073709551616 : Nat) : Int)) := S1
   have S4 : Hid (True) := S2
   clear h1 h2 c1 c2 S1 S2
   go_enter Tryz.func149, Tryz.ntmps149
   go_wp2
   go_end0
   rw [R.out, shl_nat, S3.out]
   exact ⟨rfl, hO.set _ _, (Turned.refl _ _).set _ _⟩
  ·have l1 := h1 c1
   have l1' : (p : Int) / 64 < (ys.length : Int) := by omega
   have e1 := hO.cell (p / 64) l1
   have f1 := hO.frozen (p / 64)
   have l2 := h2 c2
   have l2' : (p : Int) / 64 + 1 < (ys.length : Int) := by omega
   have e2 := hO.cell (p / 64 + 1) l2
   have f2 := hO.frozen (p / 64 + 1)
   have A : (IntKind.u64.wrap ((x : Int) * 2 ^ (p % 64)) != 0) = true := by rw [shl_nat, bne0]; simpa using c1
   have B : ((x : Int) / 2 ^ (64 - p % 64) != 0) = true := by rw [shr_cast, bne0]; simpa using c2
   have R : Hid (putL ys p x = ((ys.set (p / 64) (gt ys (p / 64) ||| x * 2 ^ (p % 64) % 18446744073709551616)).set (p / 64 + 1) (gt ys (p / 64 + 1) ||| x / 2 ^ (64 - p % 64)))) := by
    unfold putL Hid
    simp only [if_neg c1, if_neg c2]
    rw [gt_set ys _ _ _ l1, if_neg (by omega)]
   have S1 := u64_or_nat (gt ys (p / 64)) _ (hf _) (Nat.mod_lt (x * 2 ^ (p % 64)) (show 0 < 18446744073709551616 by decide))
   have S2 := u64_or_nat (gt ys (p / 64 + 1)) _ (hf _) (Nat.lt_of_le_of_lt (Nat.div_le_self x (2 ^ (64 - p % 64))) hx)
   have S3 : Hid (bits .or .u64 (gt ys (p / 64) : Int) ((x * 2 ^ (p % 64) % 18446744073709551616 : Nat) : Int) = ((gt ys (p / 64) ||| x * 2 ^ (p % 64) % 18446744073709551616 : Nat) : Int)) := S1
   have S4 : Hid (bits .or .u64 (gt ys (p / 64 + 1) : Int) ((x / 2 ^ (64 - p % 64) : Nat) : Int) = ((gt ys (p / 64 + 1) ||| x / 2 ^ (64 - p % 64) : Nat) : Int)) := S2
   clear h1 h2 c1 c2 S1 S2
   go_enter Tryz.func149, Tryz.ntmps149
   go_wp2
   go_end0
   rw [R.out, shl_nat, S3.out, shr_cast, S4.out]
   exact ⟨rfl, (hO.set _ _).set _ _, ((Turned.refl _ _).set _ _).set _ _⟩
theorem qlay_l (ys : List Nat) (l g cap p x : Nat) (w : World) (hl : ys.length = l) (hO : Own w g ys) (hp : p ≤ 2097152) (hf : Fit ys) (hx : x < 18446744073709551616) (hR : Room ys p x) :
  Calls Tryz.prog 149 #[.slice (some ⟨g, 0, none⟩) l cap, .int .i64 p, .int .u64 x] w fun e w' => e = .returned (.tuple #[]) ∧ Own w' g (putL ys p x) ∧ Turned g w w' := by
 subst hl
 exact qlay_c ys g cap p x w hO hp hf hx hR
theorem qwithin_c (c o n : Nat) (hc : c ≤ 15) (ho : o < ch 15 c) (hn : n ≤ 64) (w : World) :
  Calls Tryz.prog 144 #[.agg #[.int .i64 c, .int .u64 o], .int .i64 n] w fun e w' => e = .returned (.agg #[.int .i64 (cnt (blk 15 c o % 2 ^ n) 15 : Nat), .int .u64 (off (blk 15 c o % 2 ^ n) 15 : Nat)]) ∧ Below w.heap.size w w' := by
 have C1 : Hid (∀ w0, Calls Tryz.prog 118 #[.agg #[.int .i64 c, .int .u64 o]] w0 fun e w' => e = .returned (.int .u64 (blk 15 c o : Nat)) ∧ Below w0.heap.size w0 w') := fun w0 => qwordOf_c c o hc ho w0
 have hb0 := blk_lt 15 c o
 have C2 : Hid (∀ w0, Calls Tryz.prog 163 #[.int .i64 n] w0 fun e w' => e = .returned (.int .u64 ((2 ^ n - 1 : Nat) : Int)) ∧ w' = w0) := fun w0 => mask_n n _ (mask_is n hn) w0
 have p64 := Nat.pow_le_pow_right (n := 2) (by decide) hn
 have A : Hid (bits .and .u64 ((blk 15 c o : Nat) : Int) ((2 ^ n - 1 : Nat) : Int) = ((blk 15 c o % 2 ^ n : Nat) : Int)) := by
  show bits .and .u64 ((blk 15 c o : Nat) : Int) ((2 ^ n - 1 : Nat) : Int) = _
  rw [u64_and_nat _ _ (by omega) (by omega), Nat.and_two_pow_sub_one_eq_mod]
 have hmod := Nat.mod_le (blk 15 c o) (2 ^ n)
 have C3 : Hid (∀ w0, Calls Tryz.prog 156 #[.int .u64 ((blk 15 c o % 2 ^ n : Nat) : Int)] w0 fun e w' => e = .returned (.agg #[.int .i64 (cnt (blk 15 c o % 2 ^ n) 15 : Nat), .int .u64 (off (blk 15 c o % 2 ^ n) 15 : Nat)]) ∧ Below w0.heap.size w0 w') := fun w0 => qblockOf_c _ (by omega) w0
 generalize blk 15 c o = X at *
 generalize X % 2 ^ n = Y at *
 generalize 2 ^ n - 1 = M at *
 generalize cnt Y 15 = K at *
 generalize off Y 15 = O at *
 obtain ⟨W, hW⟩ : ∃ W, W = (w.alloc (.cells #[.int .i64 c, .int .u64 o] 165)).alloc (.cells #[.int .i64 0, .int .u64 0] 165) := ⟨_, rfl⟩
 have bW := yb2 hW
 have B1 := yc2 hW
 clear hmod p64 hb0
 go_enter Tryz.func144, Tryz.ntmps144
 go_wp2_with fail
 rw [← hW]
 refine (C1.out _).mono ?_
 rintro e w1 ⟨rfl, hb⟩
 have hw1 := bW.trans (hb.mono bW.size)
 replace B1 := B1.kept hb
 clear hb hW
 go_wp2_with fail
 refine (C2.out _).mono ?_
 rintro e w2 ⟨rfl, rfl⟩
 go_wp2_with fail
 rw [A.out]
 refine (C3.out _).mono ?_
 rintro e w3 ⟨rfl, hb⟩
 have hw3 := hw1.trans (hb.mono hw1.size)
 replace B1 := B1.kept hb
 have f0 := B1.frozen 0
 have f1 := B1.frozen 1
 have c0 := B1.cell 0 rfl
 have c1 := B1.cell 1 rfl
 clear hb C1 C2 C3 A
 go_wp2
 refine bodyPost_ret (v := .agg #[.int .i64 (K : Nat), .int .u64 (O : Nat)]) (by simp [results, Tryz.results144, go_sem, c0, c1]) rfl ⟨rfl, ?_⟩
 exact (hw3.setCell (by simp) _).setCell (by simp) _
theorem qnoughts_c (n k : Nat) (hn : n ≤ 1048576) (hk : k = (n + 63) / 64) (w : World) :
  Calls Tryz.prog 147 #[.int .i64 n] w fun e w' => ∃ g, e = .returned (.agg #[.int .i64 n, .slice (some ⟨g, 0, none⟩) k k]) ∧ w.heap.size ≤ g ∧ Own w' g (rowOf n fun _ => false) ∧ Below w.heap.size w w' := by
 rw [← rep_row n k hk]
 have C : Hid (∀ w0, Calls Tryz.prog 104 #[.int .i64 n] w0 fun e w' => ∃ g, e = .returned (.tuple #[.agg #[.int .i64 n, .slice (some ⟨g, 0, none⟩) k k], .int .i64 0]) ∧ w0.heap.size ≤ g ∧ g < w'.heap.size ∧ Own w' g (List.replicate k 0) ∧ Below w0.heap.size w0 w') := fun w0 => new_ok n k w0 (by omega) (by omega) (by omega)
 obtain ⟨W, hW⟩ : ∃ W, W = w.alloc (.cells #[.int .i64 0, .slice none 0 0] 33) := ⟨_, rfl⟩
 have bW := yb1 hW
 have B1 := yc1 hW
 have zW : W.heap.size = w.heap.size + 1 := by rw [hW]; simp
 clear hk
 go_enter Tryz.func147, Tryz.ntmps147
 go_wp2_with fail
 rw [← hW]
 refine (C.out _).mono ?_
 rintro e w1 ⟨g, rfl, hg1, hg2, hO, hb⟩
 have hw1 := bW.trans (hb.mono bW.size)
 replace B1 := B1.kept hb
 have f0 := B1.frozen 0
 have f1 := B1.frozen 1
 have c0 := B1.cell 0 rfl
 have c1 := B1.cell 1 rfl
 have hlt := B1.lt
 clear hb C hW
 have HO : Hid (Own w1 g (List.replicate k 0)) := hO
 clear hO
 go_wp2
 refine bodyPost_ret (result_cel1 rfl w.heap.size [.int .i64 (n : Nat), .slice (some ⟨g, 0, none⟩) k k] rfl (((B1.set 0 _).set 1 _).alloc _) Tryz.underlying33 r8info_b) rfl ⟨g, rfl, by omega, ?_, ?_⟩
 ·refine Own.keep (Own.set_other (Own.set_other HO.out ?_ _) ?_ _) (below_alloc _ _)
  ·simp; omega
  ·simp; omega
 ·refine Below.alloc (Below.setCell (Below.setCell hw1 ?_ _) ?_ _) ?_ _
  ·simp
  ·simp
  ·simp; omega
theorem qmarkOf_c (cs : List Value) (a : RA8) (g : Nat) (w : World) (h : KI8 w cs a) (h1 : g < a.S.length) (h2 : g < a.T.length) :
  Calls Tryz.prog 141 #[.agg cs.toArray, .int .i64 g] w fun e w' => e = .returned (.agg #[.int .i64 (gi a.S g), .int .i64 (gi a.T g)]) ∧ Below w.heap.size w w' := by
 obtain ⟨⟨ao, cap, qo, dap, so, sc, tO, tc, rfl, _, a1, a2, a3, a4, a5, a6, a7, a8, a9, a10⟩, _, _, sl, tl⟩ := h
 obtain ⟨N, k, V, M, xs, L, ys, S, T⟩ := a
 dsimp only at *
 obtain ⟨b1, o1, rfl, hb1, hc1⟩ := a7 (by omega)
 obtain ⟨b2, o2, rfl, hb2, hc2⟩ := a9 (by omega)
 have i1 : (g : Int) < (S.length : Int) := by omega
 have i2 : (g : Int) < (T.length : Int) := by omega
 have e1 := hc1 g h1
 have e2 := hc2 g h2
 generalize gi S g = s at *
 generalize gi T g = t at *
 clear a1 a2 a4 a5 hc1 hc2
 obtain ⟨W, hW⟩ : ∃ W, W = (w.alloc (.cells #[.int .i64 N, .int .i64 k, .int .i64 V, .int .i64 M, .slice ao xs.length cap, .int .i64 L, .slice qo ys.length dap, .slice (some ⟨b1, o1, none⟩) S.length sc, .slice (some ⟨b2, o2, none⟩) T.length tc] 41)).alloc (.cells #[.int .i64 0, .int .i64 0] 149) := ⟨_, rfl⟩
 have bW := yb2 hW
 have B1 := yc3 hW
 have B2 := yc2 hW
 have E1 : W.cell? ⟨b1, o1 + g, none⟩ = some (.int .i64 s) := (bW.cell (p := ⟨b1, o1 + g, none⟩) hb1).trans e1
 have E2 : W.cell? ⟨b2, o2 + g, none⟩ = some (.int .i64 t) := (bW.cell (p := ⟨b2, o2 + g, none⟩) hb2).trans e2
 go_enter Tryz.func141, Tryz.ntmps141
 go_wp2
 rw [← hW]
 clear hW
 refine region_g [11] (fun w' => Cel w' w.heap.size [.int .i64 N, .int .i64 k, .int .i64 V, .int .i64 M, .slice ao xs.length cap, .int .i64 L, .slice qo ys.length dap, .slice (some ⟨b1, o1, none⟩) S.length sc, .slice (some ⟨b2, o2, none⟩) T.length tc] 41 ∧ w'.cell? ⟨b1, o1 + g, none⟩ = some (.int .i64 s) ∧ w'.cell? ⟨b2, o2 + g, none⟩ = some (.int .i64 t)) (by kernel_rfl) ?_
 have hS : Cel W.drew w.heap.size [.int .i64 N, .int .i64 k, .int .i64 V, .int .i64 M, .slice ao xs.length cap, .int .i64 L, .slice qo ys.length dap, .slice (some ⟨b1, o1, none⟩) S.length sc, .slice (some ⟨b2, o2, none⟩) T.length tc] 41 ∧ W.drew.cell? ⟨b1, o1 + g, none⟩ = some (.int .i64 s) ∧ W.drew.cell? ⟨b2, o2 + g, none⟩ = some (.int .i64 t) := ⟨B1, E1, E2⟩
 have bV : Below w.heap.size w W.drew := bW.drew
 have B3 : Cel W.drew (w.heap.size + 1) [.int .i64 0, .int .i64 0] 149 := B2
 generalize W.drew = Y at *
 clear B1 B2 E1 E2 e1 e2 bW
 refine AnyG.tk 0 hS ?_
 refine AnyG.tf 1 hS rfl (fun w0 h0 => by have c7 := h0.1.cell 7 rfl; go_simp; try with_reducible rfl) ?_
 refine AnyG.tk 2 hS ?_
 refine AnyG.tk 3 hS ?_
 refine AnyG.tf 4 hS rfl (fun w0 h0 => by have e1 := h0.2.1; go_simp; try with_reducible rfl) ?_
 refine AnyG.tk 5 hS ?_
 refine AnyG.tf 6 hS rfl (fun w0 h0 => by have c8 := h0.1.cell 8 rfl; go_simp; try with_reducible rfl) ?_
 refine AnyG.tk 7 hS ?_
 refine AnyG.tk 8 hS ?_
 refine AnyG.tf 9 hS rfl (fun w0 h0 => by have e2 := h0.2.2; go_simp; try with_reducible rfl) ?_
 refine AnyG.tk 10 hS ?_
 refine AnyG.o1 11 ?_
 intro K hK
 have f0 := B3.frozen 0
 have f1 := B3.frozen 1
 have c0 := B3.cell 0 rfl
 have c1 := B3.cell 1 rfl
 have HB : Hid (Cel Y (w.heap.size + 1) [.int .i64 0, .int .i64 0] 149) := B3
 clear hS B3
 go_simp
 refine hK.out _ _ (fun h => absurd (by decide) h) ?_
 clear hK K
 try simp only [Act.put, yq0, yq1, yq2, yq3, yq4, yq5]
 refine AnyG.done (by kernel_rfl) ?_ _
 go_wp2
 refine bodyPost_ret (result_cel1 rfl (w.heap.size + 1) [.int .i64 s, .int .i64 t] rfl ((HB.out.set 0 _).set 1 _) Tryz.underlying149 (by kernel_rfl)) rfl ⟨rfl, ?_⟩
 exact (bV.setCell (by simp) _).setCell (by simp) _
theorem Only.tb {g b : Nat} {w w' : World} {cs : List Value} (h : Only g w w') (hc : Tb w b cs) (hb : b ≠ g) : Tb w' b cs := by
 obtain ⟨T, hc⟩ := hc
 exact ⟨T, h.cel hc hb⟩
structure Fr8 (lo hi : Nat) (w w' : World) : Prop where
 below : Below lo w w'
 high : ∀ b, hi ≤ b → b < w.heap.size → w'.heap[b]? = w.heap[b]?
theorem Fr8.of {lo hi : Nat} {w w' : World} (hb : Below w.heap.size w w') (hl : lo ≤ w.heap.size) : Fr8 lo hi w w' := ⟨hb.mono hl, fun b _ h => hb.block b h⟩
theorem Fr8.trans {lo hi : Nat} {a b c : World} (h : Fr8 lo hi a b) (k : Fr8 lo hi b c) : Fr8 lo hi a c := ⟨h.below.trans k.below, fun x h1 h2 => (k.high x h1 (Nat.lt_of_lt_of_le h2 h.below.size)).trans (h.high x h1 h2)⟩
theorem Fr8.cel {lo hi b : Nat} {w w' : World} {cs : List Value} {T : TypeId} (h : Fr8 lo hi w w') (hc : Cel w b cs T) (hb : hi ≤ b) : Cel w' b cs T := (h.high b hb hc.lt).trans hc
theorem Fr8.size {lo hi : Nat} {w w' : World} (h : Fr8 lo hi w w') : w.heap.size ≤ w'.heap.size := h.below.size
theorem Fr8.setCell {lo hi : Nat} {w w' : World} {a : Addr} (h : Fr8 lo hi w w') (h1 : w.heap.size ≤ a.block) (h2 : lo ≤ a.block) (v : Value) : Fr8 lo hi w (w'.setCell a v) :=
 ⟨h.below.setCell h2 v, fun b hb hl => (Below.heap_setCell w' a v b (by omega)).trans (h.high b hb hl)⟩
theorem KI8.parts {w : World} {N k V M L : Int} {xs ys : List Nat} {S T : List Int} {ao : Option Addr} {cap : Nat} {qo : Option Addr} {dap : Nat} {so : Option Addr} {sc : Nat} {tO : Option Addr} {tc : Nat} (h : KI8 w [.int .i64 N, .int .i64 k, .int .i64 V, .int .i64 M, .slice ao xs.length cap, .int .i64 L, .slice qo ys.length dap, .slice so S.length sc, .slice tO T.length tc] ⟨N, k, V, M, xs, L, ys, S, T⟩) :
  Wd w ao xs ∧ Fit xs ∧ Wd w qo ys ∧ Fit ys ∧ Nd w so S ∧ Nd w tO T := by
 obtain ⟨⟨ao', cap', qo', dap', so', sc', tO', tc', e, _, a1, a2, a3, a4, a5, a6, a7, a8, a9, a10⟩, _⟩ := h
 simp only [List.cons.injEq, Value.slice.injEq, true_and, and_true] at e
 obtain ⟨⟨rfl, rfl⟩, ⟨rfl, rfl⟩, ⟨rfl, rfl⟩, rfl, rfl⟩ := e
 exact ⟨a1, a2, a4, a5, a7, a9⟩
def Step (cs : List Value) (a : RA8) (g n lo hi F : Nat) (caps : Array Value) (Inv Fin : Nat → World → Prop) : Prop :=
 ∀ i w1, 8 * g ≤ i → i < n → cSE a.L a.ys a.xs i = 0 → Inv i w1 → hi ≤ w1.heap.size →
  Calls Tryz.prog F (#[.int .i64 i, .agg #[.int .i64 (cls a.xs i : Nat), .int .u64 (cOff a.L a.ys a.xs i : Nat)], .agg #[.int .i64 (cOn a.xs i : Nat), .int .i64 (cAt a.xs i : Nat)]] ++ caps) w1 fun e w2 => ∃ b : Bool, e = .returned (.bool b) ∧ (b = true → Inv (i + 1) w2) ∧ (b = false → Fin i w2) ∧ Fr8 lo hi w1 w2
theorem qalong_c (cs : List Value) (a : RA8) (g n lo hi F : Nat) (caps : Array Value) (Inv Fin : Nat → World → Prop) (w : World)
  (hk : a.k = (n : Int)) (hV : a.V = 4) (ic : ichk a.k a.V a.M a.xs = true) (hg : 8 * g ≤ n) (hgs : g < a.S.length) (hgt : g < a.T.length) (hs : gi a.S g = cOn a.xs (8 * g)) (ht : gi a.T g = cAt a.xs (8 * g))
  (hlo : lo ≤ hi) (hhi : hi ≤ w.heap.size) (h0 : Inv (8 * g) w) (hK : Hid (∀ i w1, Inv i w1 → KI8 w1 cs a)) (hkeep : Hid (∀ i w1 w2, Inv i w1 → Below hi w1 w2 → Inv i w2)) (hfin : Hid (∀ i w1 w2, Fin i w1 → Below hi w1 w2 → Fin i w2))
  (hcf : Hid (∀ args w, (callFunc F args).run Tryz.prog w = .ok (.enter F args) w)) (hf : Hid (Step cs a g n lo hi F caps Inv Fin)) :
  Calls Tryz.prog 142 #[.agg cs.toArray, .int .i64 g, .func (.func F) #[] caps] w fun e w' => ∃ (q : Nat) (b : Bool), e = .returned (.tuple #[.agg #[.int .i64 (cOn a.xs q : Nat), .int .i64 (cAt a.xs q : Nat)], .bool b]) ∧ 8 * g ≤ q ∧ q ≤ n ∧ (b = true → q = n ∧ Inv n w') ∧ (b = false → q < n ∧ ((cSE a.L a.ys a.xs q ≠ 0 ∧ Inv q w') ∨ (cSE a.L a.ys a.xs q = 0 ∧ Fin q w'))) ∧ Fr8 lo hi w w' := by
 obtain ⟨⟨ao, cap, qo, dap, so, sc, tO, tc, rfl, ⟨_, _, _, _, hLL, _, _⟩, _⟩, xl, yl, sl, tl⟩ := hK.out _ _ h0
 obtain ⟨N, k, V, M, xs, L, ys, S, T⟩ := a
 dsimp only at *
 subst hk hV
 obtain ⟨_, _, _, hM, _, hM0, hM1, hnM⟩ := ichk_out _ _ _ _ ic
 have hn : n ≤ 262144 := by omega
 obtain ⟨W, hW⟩ : ∃ W, W = (w.alloc (.cells #[.int .i64 N, .int .i64 (n : Int), .int .i64 4, .int .i64 M, .slice ao xs.length cap, .int .i64 L, .slice qo ys.length dap, .slice so S.length sc, .slice tO T.length tc] 41)).alloc (.cells #[.int .i64 0, .int .i64 0] 149) := ⟨_, rfl⟩
 have bW := yb2 hW
 have zW : W.heap.size = w.heap.size + 2 := by rw [hW]; simp
 have B1 := yc3 hW
 have B2 := yc2 hW
 have HG : GV w := (hK.out _ _ h0).gv
 have HM : Hid (∀ w0, Below w.heap.size w w0 → Calls Tryz.prog 141 #[.agg #[.int .i64 N, .int .i64 (n : Int), .int .i64 4, .int .i64 M, .slice ao xs.length cap, .int .i64 L, .slice qo ys.length dap, .slice so S.length sc, .slice tO T.length tc], .int .i64 g] w0 fun e w' => e = .returned (.agg #[.int .i64 (cOn xs (8 * g) : Nat), .int .i64 (cAt xs (8 * g) : Nat)]) ∧ Below w0.heap.size w0 w') := by
  intro w0 hb
  have := qmarkOf_c [.int .i64 N, .int .i64 (n : Int), .int .i64 4, .int .i64 M, .slice ao xs.length cap, .int .i64 L, .slice qo ys.length dap, .slice so S.length sc, .slice tO T.length tc] ⟨N, n, 4, M, xs, L, ys, S, T⟩ g w0 ((hK.out _ _ h0).keep hb) hgs hgt
  dsimp only at this
  rw [hs, ht] at this
  exact this
 have m1 : IntKind.i64.wrap ((g : Int) * 8) = ((8 * g : Nat) : Int) := by rw [IntKind.wrap_i64]; omega
 have HI : Hid (Inv (8 * g) w) := h0
 clear hs ht h0 hgs hgt
 go_enter Tryz.func142, Tryz.ntmps142
 go_wp2_with fail
 rw [← hW]
 have q0 := B1.cell 0 rfl
 have q1 := B1.cell 1 rfl
 have q2 := B1.cell 2 rfl
 have q3 := B1.cell 3 rfl
 have q4 := B1.cell 4 rfl
 have q5 := B1.cell 5 rfl
 have q6 := B1.cell 6 rfl
 have q7 := B1.cell 7 rfl
 have q8 := B1.cell 8 rfl
 go_wp2_with fail
 clear q0 q1 q2 q3 q4 q5 q6 q7 q8
 refine (HM.out _ bW).mono ?_
 rintro e w4 ⟨rfl, hb⟩
 have bw4 := bW.trans (hb.mono bW.size)
 have z4 := hb.size
 replace B1 := B1.kept hb
 replace B2 := B2.kept hb
 have B4 : Tb w4 1 (vI wdL) := HG.wd.kept bw4
 have L0 := HG.two
 clear hb HM hW bW HG
 go_wp2
 generalize hG2 : w4.heap.size = G2 at *
 have LG : w.heap.size + 2 ≤ G2 := by omega
 go_loopw [9] (fun s wr => ∃ q : Nat, 8 * g ≤ q ∧ q ≤ n ∧ s = .int .i64 q ∧ Cel wr w.heap.size [.int .i64 N, .int .i64 (n : Int), .int .i64 4, .int .i64 M, .slice ao xs.length cap, .int .i64 L, .slice qo ys.length dap, .slice so S.length sc, .slice tO T.length tc] 41 ∧ Cel wr (w.heap.size + 1) [.int .i64 0, .int .i64 0] 149 ∧ Tb wr 1 (vI wdL) ∧ Cel wr G2 [.int .i64 (cOn xs q : Nat), .int .i64 (cAt xs q : Nat)] 149 ∧ Inv q wr ∧ Fr8 lo hi w wr) (fun s _ => n - (intOf s).toNat)
 case atStart =>
  have hb := below_alloc w4 (.cells #[.int .i64 (cOn xs (8 * g) : Nat), .int .i64 (cAt xs (8 * g) : Nat)] 149)
  have hB : Below w.heap.size w (w4.alloc (.cells #[.int .i64 (cOn xs (8 * g) : Nat), .int .i64 (cAt xs (8 * g) : Nat)] 149)) := bw4.trans (hb.mono bw4.size)
  refine ⟨8 * g, Nat.le_refl _, hg, ?_, B1.kept hb, B2.kept hb, B4.kept hb, ?_, hkeep.out _ _ _ HI.out (hB.mono hhi), Fr8.of hB (by omega)⟩
  ·exact congrArg (Value.int IntKind.i64) (by omega)
  ·rw [← hG2]; exact Cel.new w4 _ _
 case round =>
  obtain ⟨q, hq0, hq, rfl, B1, B2, B3, B4, hI, hF⟩ := hrel
  have zr := hF.size
  have KP := (hK.out q _ hI).parts
  obtain ⟨p1, p2, p3, p4, _, _⟩ := KP
  have q1 := B1.cell 1 rfl
  by_cases hqn : q < n
  ·have hqn2 : (q : Int) < (n : Int) := by omega
   have cl := cls_le xs q
   have on := cOn_le xs q
   have at_ := cAt_le xs q
   have kw := kwd_le13 (cls xs q) cl
   have HGt : Hid (Calls Tryz.prog 188 #[.agg #[.int .i64 (n : Int), .int .i64 4, .int .i64 M, .slice ao xs.length cap], .int .i64 (q : Int)] wr fun e w' => e = .returned (.tuple #[.int .u64 (cls xs q : Nat), .int .i64 0]) ∧ Below wr.heap.size wr w') := by
    have e0 : igE (n : Int) 4 M xs (q : Int) = 0 := by unfold igE; rw [if_neg (by rw [ic]; simp), if_neg (by omega)]
    have := iget_ok (n : Int) 4 M ao xs cap (q : Int) wr p1 p2 e0
    unfold igX at this
    rw [if_pos e0, e0, Int.toNat_natCast] at this
    exact this
   have HSl : Hid (∀ w0, Below wr.heap.size wr w0 → Calls Tryz.prog 155 #[.agg #[.int .i64 L, .slice qo ys.length dap], .int .i64 (cAt xs q : Nat), .int .i64 (kwd (cls xs q) : Nat)] w0 fun e w' => e = .returned (.tuple #[.int .u64 (cOff L ys xs q : Nat), .int .i64 (cSE L ys xs q)]) ∧ Below w0.heap.size w0 w') := fun w0 hb => slice_c L qo ys dap (cAt xs q : Nat) (kwd (cls xs q) : Nat) w0 (p3.keep hb) p4 (by omega) (by omega) (by omega) (by omega)
   have HBh : Hid (∀ w0, Calls Tryz.prog 158 #[.agg #[.int .i64 (cOn xs q : Nat), .int .i64 (cAt xs q : Nat)], .agg #[.int .i64 (cls xs q : Nat), .int .u64 (cOff L ys xs q : Nat)], .int .i64 (kwd (cls xs q) : Nat)] w0 fun e w' => e = .returned (.agg #[.int .i64 (cOn xs (q + 1) : Nat), .int .i64 (cAt xs (q + 1) : Nat)]) ∧ Below w0.heap.size w0 w') := fun w0 => qbehind_c (cOn xs q) (cAt xs q) (cls xs q) (kwd (cls xs q)) (cOff L ys xs q) (by omega) (by omega) cl (by omega) w0
   have HWd : Hid ((vI wdL)[cls xs q]? = some (.int .i64 (kwd (cls xs q) : Nat))) := by
    show (vI wdL)[cls xs q]? = _
    rw [vI_get wdL (cls xs q) (by rw [length_wdL]; omega), gt_wdL _ cl]
   have HC : Hid (∀ w1, cSE L ys xs q = 0 → Inv q w1 → hi ≤ w1.heap.size → Calls Tryz.prog F (#[.int .i64 q, .agg #[.int .i64 (cls xs q : Nat), .int .u64 (cOff L ys xs q : Nat)], .agg #[.int .i64 (cOn xs q : Nat), .int .i64 (cAt xs q : Nat)]] ++ caps) w1 fun e w2 => ∃ b : Bool, e = .returned (.bool b) ∧ (b = true → Inv (q + 1) w2) ∧ (b = false → Fin q w2) ∧ Fr8 lo hi w1 w2) := fun w1 h1 h2 h3 => hf.out q w1 hq0 hqn h1 h2 h3
   have q2 := B1.cell 2 rfl
   have q3 := B1.cell 3 rfl
   have q4 := B1.cell 4 rfl
   clear p1 p2 p3 p4 hf
   have cli : ((cls xs q : Nat) : Int) < 16 := by omega
   generalize hc0 : cls xs q = c at *
   generalize hs0 : cOn xs q = s0 at *
   generalize ha0 : cAt xs q = a0 at *
   generalize hw0 : kwd c = wd at *
   generalize ho0 : cOff L ys xs q = o at *
   generalize hE0 : cSE L ys xs q = E at *
   go_wp2_with fail
   refine HGt.out.mono ?_
   rintro e w5 ⟨rfl, hb⟩
   have hb5 := hb
   have hI5 := hkeep.out _ _ _ hI (hb.mono (by omega))
   have hF5 := hF.trans (Fr8.of hb (by omega))
   have z5 := hb.size
   replace B1 := B1.kept hb
   replace B2 := B2.kept hb
   replace B3 := B3.kept hb
   replace B4 := B4.kept hb
   clear hb q1 q2 q3 q4 HGt hI hF
   go_wp2
   refine region_g [] (fun w' => Cel w' w.heap.size [.int .i64 N, .int .i64 (n : Int), .int .i64 4, .int .i64 M, .slice ao xs.length cap, .int .i64 L, .slice qo ys.length dap, .slice so S.length sc, .slice tO T.length tc] 41 ∧ Tb w' 1 (vI wdL) ∧ Cel w' G2 [.int .i64 (s0 : Nat), .int .i64 (a0 : Nat)] 149) (by kernel_rfl) ?_
   have hS : Cel w5.drew w.heap.size [.int .i64 N, .int .i64 (n : Int), .int .i64 4, .int .i64 M, .slice ao xs.length cap, .int .i64 L, .slice qo ys.length dap, .slice so S.length sc, .slice tO T.length tc] 41 ∧ Tb w5.drew 1 (vI wdL) ∧ Cel w5.drew G2 [.int .i64 (s0 : Nat), .int .i64 (a0 : Nat)] 149 := ⟨B1, B3, B4⟩
   have bV : Below w5.heap.size w5 w5.drew := (Below.refl _ _).drew
   have hbV : Below wr.heap.size wr w5.drew := hb5.drew
   replace B2 : Cel w5.drew (w.heap.size + 1) [.int .i64 0, .int .i64 0] 149 := B2
   have hI6 := hkeep.out _ _ _ hI5 (bV.mono (by omega))
   have hF6 := hF5.trans (Fr8.of bV (by omega))
   have z6 := bV.size
   generalize w5.drew = Y at *
   clear B1 B3 B4 hI5 hF5 hb5 bV
   refine AnyG.tk 0 hS ?_
   refine AnyG.tf 1 hS rfl (fun w0 h0 => by have c5 := h0.1.cell 5 rfl; have c6 := h0.1.cell 6 rfl; go_simp; try with_reducible rfl) ?_
   refine AnyG.tk 2 hS ?_
   refine AnyG.tf 3 hS rfl (fun w0 h0 => by have c1 := h0.2.2.cell 1 rfl; go_simp; try with_reducible rfl) ?_
   refine AnyG.tk 4 hS ?_
   refine AnyG.tk 5 hS ?_
   refine AnyG.tf 6 hS rfl (fun w0 h0 => by have cw := h0.2.1.cell c HWd.out; go_simp; try with_reducible rfl) ?_
   refine AnyG.o1 7 ?_
   intro K hK
   go_simp
   refine (HSl.out _ hbV).mono ?_
   rintro e w7 ⟨rfl, hb⟩
   have hS7 : Cel w7 w.heap.size [.int .i64 N, .int .i64 (n : Int), .int .i64 4, .int .i64 M, .slice ao xs.length cap, .int .i64 L, .slice qo ys.length dap, .slice so S.length sc, .slice tO T.length tc] 41 ∧ Tb w7 1 (vI wdL) ∧ Cel w7 G2 [.int .i64 (s0 : Nat), .int .i64 (a0 : Nat)] 149 := ⟨hS.1.kept hb, hS.2.1.kept hb, hS.2.2.kept hb⟩
   replace B2 := B2.kept hb
   have hI7 := hkeep.out _ _ _ hI6 (hb.mono (by omega))
   have hF7 := hF6.trans (Fr8.of hb (by omega))
   have z7 := hb.size
   clear hb hI6 hF6 hS
   refine hK.out _ _ (fun _ => hS7) ?_
   clear hK K
   try simp only [Act.put, yq0, yq1, yq2, yq3, yq4, yq5]
   refine AnyG.tk 8 hS7 ?_
   refine AnyG.tk 9 hS7 ?_
   refine AnyG.tk 10 hS7 ?_
   refine AnyG.tk 11 hS7 ?_
   refine AnyG.tk 12 hS7 ?_
   refine AnyG.done (by kernel_rfl) ?_ _
   obtain ⟨B1, B3, B4⟩ := hS7
   have m0 := B4.cell 0 rfl
   have m1 := B4.cell 1 rfl
   have l4 := B4.lt
   have hb := below_alloc w7 (.cells #[.int .i64 (c : Nat), .int .u64 (o : Nat)] 165)
   obtain ⟨W8, hW8⟩ : ∃ W8, W8 = w7.alloc (.cells #[.int .i64 (c : Nat), .int .u64 (o : Nat)] 165) := ⟨_, rfl⟩
   rw [← hW8] at hb
   have B5 : Cel W8 w7.heap.size [.int .i64 (c : Nat), .int .u64 (o : Nat)] 165 := by rw [hW8]; exact Cel.new w7 _ _
   have hI8 := hkeep.out _ _ _ hI7 (hb.mono (by omega))
   have hF8 := hF7.trans (Fr8.of hb (by omega))
   have z8 := hb.size
   replace B1 := B1.kept hb
   replace B2 := B2.kept hb
   replace B3 := B3.kept hb
   replace B4 := B4.kept hb
   have h56 : hi ≤ w7.heap.size := by omega
   clear hb hI7 hF7
   rcases Decidable.em (E = 0) with rfl | hE
   ·go_wp2_with fail
    rw [← hW8]
    rw [hcf.out, Oper.upon_enter]
    refine (HC.out _ (by simp) hI8 (by omega)).mono ?_
    rintro e w9 ⟨b, rfl, hb1, hb0, hfr⟩
    have hF9 := hF8.trans hfr
    have z9 := hfr.size
    replace B1 := hfr.cel B1 (by omega)
    replace B2 := hfr.cel B2 (by omega)
    clear B3
    replace B4 := hfr.cel B4 (by omega)
    replace B5 := hfr.cel B5 (by omega)
    have HF9 : Hid (Fr8 lo hi w w9) := hF9
    clear hfr hF8 hF9 hI8 hW8 m0 m1 HC
    cases b with
    | false =>
     have hfin9 : Hid (Fin q w9) := hb0 rfl
     clear hb0 hb1
     have m0 := B4.cell 0 rfl
     have m1 := B4.cell 1 rfl
     have n0 := B2.cell 0 rfl
     have n1 := B2.cell 1 rfl
     have f0 := B2.frozen 0
     have f1 := B2.frozen 1
     go_wp2
     refine bodyPost_ret (result_cel rfl (w.heap.size + 1) [.int .i64 (s0 : Nat), .int .i64 (a0 : Nat)] rfl ((B2.set 0 _).set 1 _) Tryz.underlying149 (by kernel_rfl)) rfl ⟨q, false, by rw [hs0, ha0]; rfl, hq0, hq, nofun, fun _ => ⟨hqn, .inr ⟨hE0, hfin.out _ _ _ hfin9.out (((Below.refl hi w9).setCell (by show hi ≤ w.heap.size + 1; omega) _).setCell (by show hi ≤ w.heap.size + 1; omega) _)⟩⟩, (HF9.out.setCell (by show w.heap.size ≤ w.heap.size + 1; omega) (by show lo ≤ w.heap.size + 1; omega) _).setCell (by show w.heap.size ≤ w.heap.size + 1; omega) (by show lo ≤ w.heap.size + 1; omega) _⟩
    | true =>
     have hI9 := hb1 rfl
     have B3 : Tb w9 1 (vI wdL) := (hK.out _ _ hI9).gv.wd
     clear hb0 hb1
     go_wp2
     refine region_g [6] (fun w' => Tb w' 1 (vI wdL) ∧ Cel w' G2 [.int .i64 (s0 : Nat), .int .i64 (a0 : Nat)] 149 ∧ Cel w' w7.heap.size [.int .i64 (c : Nat), .int .u64 (o : Nat)] 165) (by kernel_rfl) ?_
     have hS : Tb w9.drew 1 (vI wdL) ∧ Cel w9.drew G2 [.int .i64 (s0 : Nat), .int .i64 (a0 : Nat)] 149 ∧ Cel w9.drew w7.heap.size [.int .i64 (c : Nat), .int .u64 (o : Nat)] 165 := ⟨B3, B4, B5⟩
     have bV : Below w9.heap.size w9 w9.drew := (Below.refl _ _).drew
     replace B1 : Cel w9.drew w.heap.size [.int .i64 N, .int .i64 (n : Int), .int .i64 4, .int .i64 M, .slice ao xs.length cap, .int .i64 L, .slice qo ys.length dap, .slice so S.length sc, .slice tO T.length tc] 41 := B1
     replace B2 : Cel w9.drew (w.heap.size + 1) [.int .i64 0, .int .i64 0] 149 := B2
     replace hI9 := hkeep.out _ _ _ hI9 (bV.mono (by omega))
     have hF9 := HF9.out.trans (Fr8.of bV (by omega))
     have z10 := bV.size
     generalize w9.drew = Y2 at *
     clear B3 B4 B5 bV HF9
     refine AnyG.tf 0 hS rfl (fun w0 h0 => by have c0 := h0.2.1.cell 0 rfl; have c1 := h0.2.1.cell 1 rfl; go_simp; try with_reducible rfl) ?_
     refine AnyG.tf 1 hS rfl (fun w0 h0 => by have c0 := h0.2.2.cell 0 rfl; have c1 := h0.2.2.cell 1 rfl; go_simp; try with_reducible rfl) ?_
     refine AnyG.tk 2 hS ?_
     refine AnyG.tk 3 hS ?_
     refine AnyG.tf 4 hS rfl (fun w0 h0 => by have cw := h0.1.cell c HWd.out; go_simp; try with_reducible rfl) ?_
     refine AnyG.o1 5 ?_
     intro K hK
     go_simp
     refine (HBh.out _).mono ?_
     rintro e w11 ⟨rfl, hb⟩
     have hS11 : Tb w11 1 (vI wdL) ∧ Cel w11 G2 [.int .i64 (s0 : Nat), .int .i64 (a0 : Nat)] 149 ∧ Cel w11 w7.heap.size [.int .i64 (c : Nat), .int .u64 (o : Nat)] 165 := ⟨hS.1.kept hb, hS.2.1.kept hb, hS.2.2.kept hb⟩
     replace B1 := B1.kept hb
     replace B2 := B2.kept hb
     have hI11 := hkeep.out _ _ _ hI9 (hb.mono (by omega))
     have hF11 := hF9.trans (Fr8.of hb (by omega))
     clear hb hS hI9 hF9
     refine hK.out _ _ (fun _ => hS11) ?_
     clear hK K
     try simp only [Act.put, yq0, yq1, yq2, yq3, yq4, yq5]
     refine AnyG.o1 6 ?_
     intro K hK
     obtain ⟨B3, B4, B5⟩ := hS11
     have f0 := B4.frozen 0
     have f1 := B4.frozen 1
     have c0 := B4.cell 0 rfl
     have c1 := B4.cell 1 rfl
     have HQ : Hid (Cel w11 w.heap.size [.int .i64 N, .int .i64 (n : Int), .int .i64 4, .int .i64 M, .slice ao xs.length cap, .int .i64 L, .slice qo ys.length dap, .slice so S.length sc, .slice tO T.length tc] 41 ∧ Cel w11 (w.heap.size + 1) [.int .i64 0, .int .i64 0] 149 ∧ Tb w11 1 (vI wdL) ∧ Cel w11 G2 [.int .i64 (s0 : Nat), .int .i64 (a0 : Nat)] 149 ∧ Inv (q + 1) w11 ∧ Fr8 lo hi w w11) := ⟨B1, B2, B3, B4, hI11, hF11⟩
     clear B1 B2 B3 B4 B5 hI11 hF11
     go_simp
     refine hK.out _ _ (fun h => absurd (by decide) h) ?_
     clear hK K
     try simp only [Act.put, yq0, yq1, yq2, yq3, yq4, yq5]
     refine AnyG.done (by kernel_rfl) ?_ _
     go_wp2
     obtain ⟨B1, B2, B3, B4, hI11, hF11⟩ := HQ.out
     refine ⟨⟨q + 1, by omega, by omega, by go_num, (B1.other (by show w.heap.size ≠ G2; omega) _).other (by show w.heap.size ≠ G2; omega) _, (B2.other (by show w.heap.size + 1 ≠ G2; omega) _).other (by show w.heap.size + 1 ≠ G2; omega) _, (B3.other (by show (1 : Nat) ≠ G2; omega) _).other (by show (1 : Nat) ≠ G2; omega) _, (B4.set 0 _).set 1 _, hkeep.out _ _ _ hI11 (((Below.refl hi w11).setCell (by show hi ≤ G2; omega) _).setCell (by show hi ≤ G2; omega) _), (hF11.setCell (by show w.heap.size ≤ G2; omega) (by show lo ≤ G2; omega) _).setCell (by show w.heap.size ≤ G2; omega) (by show lo ≤ G2; omega) _⟩, by simp only [intOf]; omega⟩
   ·have hE2 : (E != 0) = true := by simpa using hE
    have n0 := B2.cell 0 rfl
    have n1 := B2.cell 1 rfl
    have f0 := B2.frozen 0
    have f1 := B2.frozen 1
    replace m0 := B4.cell 0 rfl
    replace m1 := B4.cell 1 rfl
    clear HC HBh HWd
    rw [hW8] at B2 hI8 hF8 n0 n1 f0 f1 m0 m1
    go_wp2
    refine bodyPost_ret (result_cel rfl (w.heap.size + 1) [.int .i64 (s0 : Nat), .int .i64 (a0 : Nat)] rfl ((B2.set 0 _).set 1 _) Tryz.underlying149 (by kernel_rfl)) rfl ⟨q, false, by rw [hs0, ha0]; rfl, hq0, hq, nofun, fun _ => ⟨hqn, .inl ⟨by rw [hE0]; exact hE, hkeep.out _ _ _ hI8 (((Below.refl hi _).setCell (by show hi ≤ w.heap.size + 1; omega) _).setCell (by show hi ≤ w.heap.size + 1; omega) _)⟩⟩, (hF8.setCell (by show w.heap.size ≤ w.heap.size + 1; omega) (by show lo ≤ w.heap.size + 1; omega) _).setCell (by show w.heap.size ≤ w.heap.size + 1; omega) (by show lo ≤ w.heap.size + 1; omega) _⟩
  ·obtain rfl : q = n := by omega
   have n0 := B2.cell 0 rfl
   have n1 := B2.cell 1 rfl
   have f0 := B2.frozen 0
   have f1 := B2.frozen 1
   have m0 := B4.cell 0 rfl
   have m1 := B4.cell 1 rfl
   have HI2 : Hid (Inv q wr) := hI
   have HF2 : Hid (Fr8 lo hi w wr) := hF
   clear hf hI hF
   go_wp2
   refine bodyPost_ret (result_cel rfl (w.heap.size + 1) [.int .i64 (cOn xs q : Nat), .int .i64 (cAt xs q : Nat)] rfl ((B2.set 0 _).set 1 _) Tryz.underlying149 (by kernel_rfl)) rfl ⟨q, true, rfl, hq0, hq, fun _ => ⟨rfl, hkeep.out _ _ _ HI2.out (((Below.refl hi _).setCell (by show hi ≤ w.heap.size + 1; omega) _).setCell (by show hi ≤ w.heap.size + 1; omega) _)⟩, nofun, (HF2.out.setCell (by show w.heap.size ≤ w.heap.size + 1; omega) (by show lo ≤ w.heap.size + 1; omega) _).setCell (by show w.heap.size ≤ w.heap.size + 1; omega) (by show lo ≤ w.heap.size + 1; omega) _⟩
end Go.Proofs.YtfnkklkdajlhlaaGreatDoor
