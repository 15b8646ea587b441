/-
  The contracts of Offset and Block. The contracts of the small functions of the program's package for rows in blocks. The contract of the program's markOf, and tables of sixteen numbers by value. Arrays by value, and what stays of the tables.
-/
import Derived.Test.YtpeecabfcgijhaaGreatDoorM17
import Derived.WalkMore
import Derived.Test.YtpeecabfcgijhaaGreatDoorM11
import Derived.Test.YtpeecabfcgijhaaGreatDoorM05
import Derived.Test.YtpeecabfcgijhaaGreatDoorM02
import Derived.Deep.WholeRow
import Derived.Laws.ResultCell
namespace Go.Proofs.YtpeecabfcgijhaaGreatDoor
open Go.RowKit Num Bn Ow
set_option linter.unusedVariables false
set_option linter.unusedSimpArgs false
set_option maxRecDepth 100000

set_option maxHeartbeats 2000000 in
theorem offset_c (x : Nat) (n : Int) (hx : x < 18446744073709551616) (hn : -9223372036854775808 ≤ n ∧ n ≤ 9223372036854775807) (w : World) :
  Calls Tryz.prog 161 #[.int .u64 x, .int .i64 n] w fun e w' => e = .returned (.tuple #[.int .i64 (ofK x n), .int .u64 (ofO x n)]) ∧ Below w.heap.size w w' := by
 by_cases hw : n < 0 ∨ 62 < n
 ·rw [show ofK x n = 0 by unfold ofK; rw [if_pos hw], show ofO x n = 0 by unfold ofO; rw [if_pos hw]]
  have W : Hid (∀ w, Calls Tryz.prog 174 #[.int .i64 n] w fun e w' => e = .returned (.bool false) ∧ w' = w) := within_out n hw
  clear hw
  go_enter Tryz.func161, Tryz.ntmps161
  go_wp2_with fail
  refine (W.out _).mono ?_
  rintro e w1 ⟨rfl, hw1⟩
  rw [hw1]
  clear hw1 w1
  go_wp2
  go_ret2
  exact ⟨rfl, Below.refl _ _⟩
 have W : Hid (∀ w, Calls Tryz.prog 174 #[.int .i64 n] w fun e w' => e = .returned (.bool true) ∧ w' = w) := within_in n (by omega) (by omega)
 rw [show ofK x n = cnt x n.toNat by unfold ofK; rw [if_neg hw], show ofO x n = off x n.toNat by unfold ofO; rw [if_neg hw]]
 obtain ⟨m, rfl⟩ := Int.eq_ofNat_of_zero_le (show 0 ≤ n by omega)
 rw [Int.toNat_natCast]
 have hm : m ≤ 62 := by omega
 clear hw
 have R : Hid (∀ w, Calls Tryz.prog 175 #[.int .i64 0] w fun e w' => e = .returned (.agg (wv (rowP 62 0)).toArray) ∧ Below w.heap.size w w') := rowOf_c 0 (by omega)
 have G : Hid (∀ (g i : Nat), i < 62 → ∀ w, Cel w g (wv (rowP 62 i)) 199 → Calls Tryz.prog 176 #[.pointer (some ⟨g, 0, none⟩), .int .i64 i] w fun e w' => e = .returned (.tuple #[]) ∧ Cel w' g (wv (rowP 62 (i + 1))) 199 ∧ Below g w w') := grow_c
 have x0 : (0 : Int) ≤ (x : Int) := by omega
 go_enter Tryz.func161, Tryz.ntmps161
 go_wp2_with fail
 refine (W.out _).mono ?_
 rintro e w1 ⟨rfl, hw1⟩
 rw [hw1]
 clear hw1 w1 W
 go_wp2_with fail
 refine (R.out _).mono ?_
 rintro e w1 ⟨rfl, hb1⟩
 go_wp2_with (refine alloc_row ?_)
 intro w2 hc2 hb2 hs2
 go_wp2_with (refine store_row w1.heap.size _ _ rfl rfl hc2 (by simp) (length_rowP 62 0) ?_)
 intro w3 hc3 hb3
 have hB := (hb1.trans (hb2.mono hb1.size)).trans (hb3.mono hb1.size)
 have hg : w.heap.size ≤ w1.heap.size := hb1.size
 clear hb1 hc2 hb2 hs2 hb3 w2 R
 go_wp2
 generalize w1.heap.size = g at *
 clear w1
 go_loopw [6, 7, 9, 15] (fun c l _ i wr => ∃ p : Nat, p ≤ m ∧ i = .int .i64 p ∧ c = .int .i64 (cnt x p) ∧ l = .int .u64 (off x p) ∧ Cel wr g (wv (rowP 62 p)) 199 ∧ Below w.heap.size w wr) (fun _ _ _ i _ => m - (intOf i).toNat)
 case atStart => exact ⟨0, Nat.zero_le _, rfl, rfl, rfl, hc3, hB⟩
 case round =>
  obtain ⟨q, hq, rfl, rfl, rfl, hc, hb⟩ := hrel
  clear hc3 hB
  obtain ⟨c, hcq⟩ : ∃ c, Hid (c = cnt x q) := ⟨_, rfl⟩
  obtain ⟨O, hOq⟩ : ∃ O, Hid (O = off x q) := ⟨_, rfl⟩
  have c62 : c ≤ q := by rw [hcq.out]; exact cnt_le x q
  have lt := off_lt x q
  have l62 := ch62 q (cnt x q) (by omega)
  have bO : O < 4611686018427387904 := by rw [hOq.out]; omega
  rw [← hcq.out, ← hOq.out]
  clear lt l62
  by_cases hp : q < m
  ·have hp2 : (q : Int) < (m : Int) := by omega
   have q64 : (q : Int) < 64 := by omega
   have D : Hid (∀ w, Cel w g (wv (rowP 62 q)) 199 → Calls Tryz.prog 176 #[.pointer (some ⟨g, 0, none⟩), .int .i64 q] w fun e w' => e = .returned (.tuple #[]) ∧ Cel w' g (wv (rowP 62 (q + 1))) 199 ∧ Below g w w') := G.out g q (by omega)
   by_cases hbit : x / 2 ^ q % 2 = 1
   ·have T : bits .and .u64 ((x : Int) / 2 ^ q) 1 = 1 := by rw [bit_and _ _ x0 (by omega), Int.toNat_natCast, hbit]; rfl
    have ec : cnt x (q + 1) = c + 1 := by rw [cnt, hbit, hcq.out]
    have eo : off x (q + 1) = O + ch q (c + 1) := by rw [off, if_pos hbit, ec, hOq.out]
    have e1 := cel_wv hc (c + 1) (by rw [length_rowP]; omega)
    rw [gt_rowP _ _ _ (by omega)] at e1
    have b1 := ch62 q (c + 1) (by omega)
    have HC : Hid (cnt x (q + 1) = c + 1) := ec
    have l1 : (c : Int) + 1 < 63 := by omega
    have ez : ((c : Int) + 1).toNat = c + 1 := by omega
    generalize ch q (c + 1) = Z at *
    have HO : Hid (off x (q + 1) = O + Z) := eo
    clear ec eo
    have HCel : Hid (Cel wr g (wv (rowP 62 q)) 199) := hc
    clear hc G
    go_wp2_with fail
    refine (D.out _ HCel.out).mono ?_
    rintro e w4 ⟨rfl, hc4, hb4⟩
    have hb5 := hb.trans (hb4.mono hg)
    clear hb hb4 e1
    go_wp2
    exact ⟨⟨q + 1, by omega, by go_num, by rw [HC.out]; go_num, by rw [HO.out]; go_num, hc4, hb5⟩, by simp only [intOf]; omega⟩
   ·have T : bits .and .u64 ((x : Int) / 2 ^ q) 1 = 0 := by rw [bit_and _ _ x0 (by omega), Int.toNat_natCast, show x / 2 ^ q % 2 = 0 by omega]; rfl
    have HC : Hid (cnt x (q + 1) = c) := by show _ = _; rw [cnt, hcq.out]; omega
    have HO : Hid (off x (q + 1) = O) := by show _ = _; rw [off, if_neg hbit, hOq.out, Nat.add_zero]
    have HCel : Hid (Cel wr g (wv (rowP 62 q)) 199) := hc
    clear hc G
    go_wp2_with fail
    refine (D.out _ HCel.out).mono ?_
    rintro e w4 ⟨rfl, hc4, hb4⟩
    have hb5 := hb.trans (hb4.mono hg)
    clear hb hb4
    go_wp2
    exact ⟨⟨q + 1, by omega, by go_num, by rw [HC.out], by rw [HO.out], hc4, hb5⟩, by simp only [intOf]; omega⟩
  ·obtain rfl : q = m := by omega
   clear G
   go_wp2
   go_ret2
   rw [← hcq.out, ← hOq.out]
   exact ⟨rfl, hb⟩
set_option maxHeartbeats 2000000 in
theorem sought_c (a b o : Nat) (ha : a ≤ 62) (hba : b ≤ a) (ho : o < ch a b) (w : World) :
  Calls Tryz.prog 168 #[.int .i64 a, .int .i64 b, .int .u64 o] w fun e w' => e = .returned (.int .u64 (blk a b o)) ∧ Below w.heap.size w w' := by
 have R : Hid (∀ w, Calls Tryz.prog 175 #[.int .i64 a] w fun e w' => e = .returned (.agg (wv (rowP 62 a)).toArray) ∧ Below w.heap.size w w') := rowOf_c a ha
 have HSo : Hid (o < ch a b) := ho
 clear ho
 go_enter Tryz.func168, Tryz.ntmps168
 go_wp2_with fail
 go_step3
 go_wp2_with fail
 refine (R.out _).mono ?_
 rintro e w1 ⟨rfl, hb1⟩
 go_wp2_with (refine alloc_row ?_)
 intro w2 hc2 hb2 hs2
 go_wp2_with (refine store_row w1.heap.size _ _ rfl rfl hc2 (by simp) (length_rowP 62 a) ?_)
 intro w3 hc3 hb3
 have hB := (hb1.trans (hb2.mono hb1.size)).trans (hb3.mono hb1.size)
 have hg : w.heap.size ≤ w1.heap.size := hb1.size
 clear hb1 hc2 hb2 hs2 hb3 w2 R
 simp only [Act.put, yq3, List.set]
 go_wp2
 go_step3
 go_wp2
 generalize w1.heap.size = g at *
 clear w1
 go_loopw [1, 2, 7, 8] (fun kv ov xv pv wr => ∃ P K O X : Nat, P ≤ a ∧ K ≤ 62 ∧ kv = .int .i64 K ∧ ov = .int .u64 O ∧ xv = .int .u64 X ∧ pv = .int .i64 P ∧ Hid (O < ch P K ∧ X + blk P K O = blk a b o ∧ X % 2 ^ P = 0) ∧ Cel wr g (wv (rowP 62 P)) 199 ∧ Below w.heap.size w wr) (fun kv _ _ _ _ => (intOf kv).toNat)
 case atStart => exact ⟨a, b, o, 0, Nat.le_refl _, by omega, rfl, rfl, rfl, rfl, ⟨HSo.out, by omega, by simp⟩, hc3, hB⟩
 case round =>
  obtain ⟨P, K, O, X, hP, hK, rfl, rfl, rfl, rfl, hinv, hc, hb⟩ := hrel
  clear hc3 hB HSo
  by_cases hK0 : K = 0
  ·subst hK0
   have HX : Hid (X = blk a b o) := by
    have := hinv.out.2.1
    rw [blk_zero] at this
    exact this
   clear hinv
   go_wp2
   (try rw [Exit.noGoto_ret])
   go_ret
   rw [← HX.out]
   exact ⟨rfl, hb⟩
  have hK1 : (0 : Int) < (K : Int) := by omega
  have hK2 : 0 < K := by omega
  have k63 : (K : Int) < 63 := by omega
  go_wp2
  go_loopw [2, 7, 8] (fun ov xv pv wz => ∃ P : Nat, P ≤ a ∧ ov = .int .u64 O ∧ xv = .int .u64 X ∧ pv = .int .i64 P ∧ Hid (O < ch P K ∧ X + blk P K O = blk a b o ∧ X % 2 ^ P = 0) ∧ Cel wz g (wv (rowP 62 P)) 199 ∧ Below w.heap.size w wz) (fun _ _ pv _ => (intOf pv).toNat)
  case atStart => exact ⟨P, hP, rfl, rfl, rfl, hinv, hc, hb⟩
  case round =>
   obtain ⟨Q, hQ, rfl, rfl, rfl, hin2, hcz, hbz⟩ := hrel
   clear hinv hc hb
   have Q0 : Q ≠ 0 := by
    intro e
    subst e
    have := hin2.out.1
    rw [ch_out 0 K (by omega)] at this
    omega
   obtain ⟨q, rfl⟩ : ∃ q, Q = q + 1 := ⟨Q - 1, by omega⟩
   have q0 : (0 : Int) < ((q + 1 : Nat) : Int) := by omega
   have S : Hid (∀ w, Cel w g (wv (rowP 62 (q + 1))) 199 → Calls Tryz.prog 181 #[.pointer (some ⟨g, 0, none⟩), .int .i64 ((q + 1 : Nat) : Int)] w fun e w' => e = .returned (.tuple #[]) ∧ Cel w' g (wv (rowP 62 q)) 199 ∧ Below g w w') := fun w h => shrink_c g (q + 1) (by omega) (by omega) w h
   have HCz : Hid (Cel wr g (wv (rowP 62 (q + 1))) 199) := hcz
   clear hcz
   go_wp2_with fail
   refine (S.out _ HCz.out).mono ?_
   rintro e w4 ⟨rfl, hc4, hb4⟩
   have hb5 := hbz.trans (hb4.mono hg)
   clear hbz hb4 HCz S
   have ez : ((q + 1 : Nat) : Int) = (q : Int) + 1 := by omega
   rw [ez]
   have q64 : (q : Int) < 64 := by omega
   have e1 := cel_wv hc4 K (by rw [length_rowP]; omega)
   rw [gt_rowP _ _ _ (by omega)] at e1
   have HC4 : Hid (Cel w4 g (wv (rowP 62 q)) 199) := hc4
   clear hc4
   obtain ⟨hlt, hX, hM⟩ := hin2.out
   clear hin2
   have bO : O < 4611686018427387904 := by have := ch62 (q + 1) K (by omega); omega
   have bX : X < 4611686018427387904 := by
    have := blk_lt a b o
    have : 2 ^ a ≤ 2 ^ 62 := Nat.pow_le_pow_right (by decide) ha
    omega
   by_cases hge : ch q K ≤ O
   ·have H : Hid (O - ch q K < ch q (K - 1) ∧ X + 2 ^ q + blk q (K - 1) (O - ch q K) = blk a b o ∧ (X + 2 ^ q) % 2 ^ q = 0) := by
     refine ⟨?_, ?_, mod_plus X q hM⟩
     ·obtain ⟨j, rfl⟩ : ∃ j, K = j + 1 := ⟨K - 1, by omega⟩
      rw [ch_succ] at hlt
      rw [Nat.add_sub_cancel]
      omega
     ·rw [blk_hi q K O hK0 hge] at hX
      omega
    have HR : Hid (bits .or .u64 (X : Int) (IntKind.u64.wrap (2 ^ q)) = ((X + 2 ^ q : Nat) : Int)) := by
     show bits .or .u64 (X : Int) (IntKind.u64.wrap (2 ^ q)) = ((X + 2 ^ q : Nat) : Int)
     rw [shl_one q (by omega), u64_or_nat _ _ (by omega) (two_pow_lt q (by omega)), or_high X q hM]
    have hge2 : ((ch q K : Nat) : Int) ≤ (O : Int) := by omega
    clear hX hM hlt
    generalize ch q K = Z at *
    go_wp2
    exact ⟨⟨q, K - 1, O - Z, X + 2 ^ q, by omega, by omega, by go_num, by go_num, congrArg (Value.int .u64) HR.out, by go_num, H, HC4.out, hb5⟩, by simp only [intOf]; omega⟩
   ·have H : Hid (O < ch q K ∧ X + blk q K O = blk a b o ∧ X % 2 ^ q = 0) := by
     refine ⟨by omega, ?_, mod_down X q hM⟩
     rw [blk_lo q K O hK0 hge] at hX
     exact hX
    have hge2 : ¬ ((ch q K : Nat) : Int) ≤ (O : Int) := by omega
    clear hX hM hlt
    generalize hZ : ch q K = Z at *
    go_wp2
    exact ⟨⟨q, by omega, rfl, rfl, by go_num, hZ ▸ H, HC4.out, hb5⟩, by simp only [intOf]; omega⟩
set_option maxHeartbeats 2000000 in
theorem block_c (n k : Int) (o : Nat) (hn : -9223372036854775808 ≤ n ∧ n ≤ 9223372036854775807) (hk : -9223372036854775808 ≤ k ∧ k ≤ 9223372036854775807) (ho : o < 18446744073709551616) (w : World) :
  Calls Tryz.prog 138 #[.int .i64 n, .int .i64 k, .int .u64 o] w fun e w' => e = .returned (.tuple #[.int .u64 (bkX n k o), .bool (bkB n k o)]) ∧ Below w.heap.size w w' := by
 have C : Hid (∀ w0, Calls Tryz.prog 167 #[.int .i64 n, .int .i64 k] w0 fun e w' => e = .returned (.int .u64 (chN n k)) ∧ Below w0.heap.size w0 w') := fun w0 => choose_c n k hn hk w0
 by_cases hc : chN n k ≤ o
 ·rw [show bkX n k o = 0 by unfold bkX; rw [if_pos hc], show bkB n k o = false by unfold bkB; simp; omega]
  have hc2 : (chN n k : Int) ≤ (o : Int) := by omega
  generalize chN n k = Z at *
  go_enter Tryz.func138, Tryz.ntmps138
  go_wp2_with fail
  refine (C.out _).mono ?_
  rintro e w1 ⟨rfl, hb⟩
  go_wp2
  go_ret2
  exact ⟨rfl, hb⟩
 ·have hin : ¬ (n < 0 ∨ 62 < n ∨ k < 0 ∨ n < k) := by
   intro h
   apply hc
   unfold chN
   rw [if_pos h]
   omega
  have eC : chN n k = ch n.toNat k.toNat := by unfold chN; rw [if_neg hin]
  rw [show bkX n k o = blk n.toNat k.toNat o by unfold bkX; rw [if_neg hc], show bkB n k o = true by unfold bkB; simp; omega]
  obtain ⟨a, rfl⟩ := Int.eq_ofNat_of_zero_le (show 0 ≤ n by omega)
  obtain ⟨b, rfl⟩ := Int.eq_ofNat_of_zero_le (show 0 ≤ k by omega)
  rw [Int.toNat_natCast, Int.toNat_natCast] at *
  have S : Hid (∀ w, Calls Tryz.prog 168 #[.int .i64 a, .int .i64 b, .int .u64 o] w fun e w' => e = .returned (.int .u64 (blk a b o)) ∧ Below w.heap.size w w') := sought_c a b o (by omega) (by omega) (by omega)
  have hc2 : ¬ ((chN a b : Nat) : Int) ≤ (o : Int) := by omega
  clear hin eC
  generalize chN a b = Z at *
  obtain ⟨B, hB⟩ : ∃ B, Hid (B = blk a b o) := ⟨_, rfl⟩
  rw [← hB.out] at S
  go_enter Tryz.func138, Tryz.ntmps138
  go_wp2_with fail
  refine (C.out _).mono ?_
  rintro e w1 ⟨rfl, hb⟩
  clear C
  go_wp2_with fail
  refine (S.out _).mono ?_
  rintro e w2 ⟨rfl, hb2⟩
  have hb3 := hb.trans (hb2.mono hb.size)
  clear S hb hb2
  go_wp2
  go_ret2
  rw [← hB.out]
  exact ⟨rfl, hb3⟩
end Go.Proofs.YtpeecabfcgijhaaGreatDoor

namespace Go.Proofs.YtpeecabfcgijhaaGreatDoor
open Go.RowKit Num Bit Bn
set_option linter.unusedVariables false
set_option linter.unusedSimpArgs false
set_option maxRecDepth 100000

theorem qblocks_c (m : Nat) (hm : m ≤ 1048576) (w : World) :
  Calls Tryz.prog 123 #[.int .i64 m] w fun e w' => e = .returned (.int .i64 (nb m)) ∧ w' = w := by
 go_enter Tryz.func123, Tryz.ntmps123
 go_wp2
 go_ret
 exact ⟨ret_int (by unfold nb; omega), rfl⟩
theorem qgroups_c (n : Nat) (hn : n ≤ 1048576) (w : World) :
  Calls Tryz.prog 126 #[.int .i64 n] w fun e w' => e = .returned (.int .i64 ((max 1 n + 7) / 8 : Nat)) ∧ w' = w := by
 go_enter Tryz.func126, Tryz.ntmps126
 go_wp2
 ·go_ret
  exact ⟨ret_int (by omega), rfl⟩
 ·go_ret
  exact ⟨ret_int (by omega), rfl⟩
theorem qofBit_c (bit : Bool) (i n : Nat) (h : n ≤ i) (hi : i ≤ 2097152) (w : World) :
  Calls Tryz.prog 139 #[.bool bit, .int .i64 i, .int .i64 n] w fun e w' => e = .returned (.int .i64 (obI bit i n : Nat)) ∧ w' = w := by
 unfold obI
 cases bit with
 | true =>
  go_enter Tryz.func139, Tryz.ntmps139
  go_wp2
  go_ret
  exact ⟨rfl, rfl⟩
 | false =>
  go_enter Tryz.func139, Tryz.ntmps139
  go_wp2
  go_ret
  exact ⟨ret_int (by omega), rfl⟩
theorem qbehind_c (s p c wd o : Nat) (hs : s ≤ 16777216) (hp : p ≤ 16777216) (hc : c ≤ 15) (hw : wd ≤ 15) (w : World) :
  Calls Tryz.prog 127 #[.agg #[.int .i64 s, .int .i64 p], .agg #[.int .i64 c, .int .u64 o], .int .i64 wd] w fun e w' => e = .returned (.agg #[.int .i64 (s + c : Nat), .int .i64 (p + wd : Nat)]) ∧ Below w.heap.size w w' := by
 have e1 : IntKind.i64.wrap ((s : Int) + (c : Int)) = ((s + c : Nat) : Int) := by rw [IntKind.wrap_i64]; omega
 have e2 : IntKind.i64.wrap ((p : Int) + (wd : Int)) = ((p + wd : Nat) : Int) := by rw [IntKind.wrap_i64]; omega
 go_enter Tryz.func127, Tryz.ntmps127
 go_wp2
 refine bodyPost_ret (v := .agg #[.int .i64 (s + c : Nat), .int .i64 (p + wd : Nat)]) (by simp [results, Tryz.results127, go_sem]) rfl ⟨rfl, ?_⟩
 exact ((below_alloc w _).alloc (by simp) _).alloc (by simp; omega) _
theorem qwordOf_c (c o : Nat) (hc : c ≤ 15) (ho : o < ch 15 c) (w : World) :
  Calls Tryz.prog 81 #[.agg #[.int .i64 c, .int .u64 o]] w fun e w' => e = .returned (.int .u64 (blk 15 c o : Nat)) ∧ Below w.heap.size w w' := by
 have o62 := ch62 15 c (by decide)
 have e : chN (15 : Int) (c : Int) = ch 15 c := chN_in 15 c (by decide)
 have ex : bkX 15 (c : Int) o = blk 15 c o := by
  unfold bkX
  rw [e, if_neg (by omega)]
  rfl
 have C : Hid (∀ w0, Calls Tryz.prog 138 #[.int .i64 15, .int .i64 (c : Int), .int .u64 o] w0 fun e w' => e = .returned (.tuple #[.int .u64 (blk 15 c o : Nat), .bool (bkB 15 c o)]) ∧ Below w0.heap.size w0 w') := fun w0 => by
  have := block_c 15 (c : Int) o (by decide) (by omega) (by omega) w0
  rw [ex] at this
  exact this
 generalize blk 15 c o = X at *
 generalize bkB 15 (c : Int) o = Y at *
 go_enter Tryz.func81, Tryz.ntmps81
 go_wp2_with fail
 refine (C.out _).mono ?_
 rintro e w1 ⟨rfl, hb⟩
 have hw1 : Below w.heap.size w w1 := (below_alloc w _).trans (hb.mono (by simp))
 clear hb
 go_wp2
 go_ret
 exact ⟨rfl, hw1⟩
theorem qblockOf_c (x : Nat) (hx : x < 18446744073709551616) (w : World) :
  Calls Tryz.prog 125 #[.int .u64 x] w fun e w' => e = .returned (.agg #[.int .i64 (cnt x 15 : Nat), .int .u64 (off x 15 : Nat)]) ∧ Below w.heap.size w w' := by
 have C : Hid (∀ w0, Calls Tryz.prog 161 #[.int .u64 x, .int .i64 15] w0 fun e w' => e = .returned (.tuple #[.int .i64 (cnt x 15 : Nat), .int .u64 (off x 15 : Nat)]) ∧ Below w0.heap.size w0 w') := fun w0 => offset_c x 15 hx (by decide) w0
 generalize cnt x 15 = X at *
 generalize off x 15 = Y at *
 obtain ⟨W, hW⟩ : ∃ W, W = w.alloc (.cells #[.int .i64 0, .int .u64 0] 120) := ⟨_, rfl⟩
 have bW : Below w.heap.size w W := by rw [hW]; exact below_alloc w _
 have B1 : Cel W w.heap.size [.int .i64 0, .int .u64 0] 120 := by rw [hW]; exact Cel.new w _ _
 go_enter Tryz.func125, Tryz.ntmps125
 go_wp2_with fail
 rw [← hW]
 refine (C.out _).mono ?_
 rintro e w1 ⟨rfl, hb⟩
 have hw1 := bW.trans (hb.mono bW.size)
 replace B1 := B1.kept hb
 have f0 := B1.frozen 0
 have f1 := B1.frozen 1
 have c0 := B1.cell 0 rfl
 have c1 := B1.cell 1 rfl
 clear hb hW C
 go_wp2
 refine bodyPost_ret (v := .agg #[.int .i64 (X : Nat), .int .u64 (Y : Nat)]) (by simp [results, Tryz.results125, go_sem, c0, c1]) rfl ⟨rfl, ?_⟩
 exact (hw1.setCell (by simp) _).setCell (by simp) _
theorem qlay_c (ys : List Nat) (g cap p x : Nat) (w : World) (hO : Own w g ys) (hp : p ≤ 2097152) (hf : Fit ys) (hx : x < 18446744073709551616)
  (hR : Room ys p x) :
  Calls Tryz.prog 117 #[.slice (some ⟨g, 0, none⟩) ys.length cap, .int .i64 p, .int .u64 x] w fun e w' => e = .returned (.tuple #[]) ∧ Own w' g (putL ys p x) ∧ Turned g w w' := by
 obtain ⟨h1, h2⟩ := hR
 by_cases c1 : x * 2 ^ (p % 64) % 18446744073709551616 = 0
 ·by_cases c2 : x / 2 ^ (64 - p % 64) = 0
  ·have A : (IntKind.u64.wrap ((x : Int) * 2 ^ (p % 64)) != 0) = false := by rw [shl_nat, bne0]; simpa using c1
   have B : ((x : Int) / 2 ^ (64 - p % 64) != 0) = false := by rw [shr_cast, bne0]; simpa using c2
   have R : Hid (putL ys p x = ys) := by
    unfold putL Hid
    simp only [if_pos c1, if_pos c2]

   have S1 := trivial
   have S2 := trivial
   have S3 : Hid (True) := S1
   have S4 : Hid (True) := S2
   clear h1 h2 c1 c2 S1 S2
   go_enter Tryz.func117, Tryz.ntmps117
   go_wp2
   go_end0
   rw [R.out]
   exact ⟨rfl, hO, Turned.refl _ _⟩
  ·have l2 := h2 c2
   have l2' : (p : Int) / 64 + 1 < (ys.length : Int) := by omega
   have e2 := hO.cell (p / 64 + 1) l2
   have f2 := hO.frozen (p / 64 + 1)
   have A : (IntKind.u64.wrap ((x : Int) * 2 ^ (p % 64)) != 0) = false := by rw [shl_nat, bne0]; simpa using c1
   have B : ((x : Int) / 2 ^ (64 - p % 64) != 0) = true := by rw [shr_cast, bne0]; simpa using c2
   have R : Hid (putL ys p x = (ys.set (p / 64 + 1) (gt ys (p / 64 + 1) ||| x / 2 ^ (64 - p % 64)))) := by
    unfold putL Hid
    simp only [if_pos c1, if_neg c2]

   have S1 := trivial
   have S2 := u64_or_nat (gt ys (p / 64 + 1)) _ (hf _) (Nat.lt_of_le_of_lt (Nat.div_le_self x (2 ^ (64 - p % 64))) hx)
   have S3 : Hid (True) := S1
   have S4 : Hid (bits .or .u64 (gt ys (p / 64 + 1) : Int) ((x / 2 ^ (64 - p % 64) : Nat) : Int) = ((gt ys (p / 64 + 1) ||| x / 2 ^ (64 - p % 64) : Nat) : Int)) := S2
   clear h1 h2 c1 c2 S1 S2
   go_enter Tryz.func117, Tryz.ntmps117
   go_wp2
   go_end0
   rw [R.out, shr_cast, S4.out]
   exact ⟨rfl, hO.set _ _, (Turned.refl _ _).set _ _⟩
 ·by_cases c2 : x / 2 ^ (64 - p % 64) = 0
  ·have l1 := h1 c1
   have l1' : (p : Int) / 64 < (ys.length : Int) := by omega
   have e1 := hO.cell (p / 64) l1
   have f1 := hO.frozen (p / 64)
   have A : (IntKind.u64.wrap ((x : Int) * 2 ^ (p % 64)) != 0) = true := by rw [shl_nat, bne0]; simpa using c1
   have B : ((x : Int) / 2 ^ (64 - p % 64) != 0) = false := by rw [shr_cast, bne0]; simpa using c2
   have R : Hid (putL ys p x = (ys.set (p / 64) (gt ys (p / 64) ||| x * 2 ^ (p % 64) % 18446744073709551616))) := by
    unfold putL Hid
    simp only [if_neg c1, if_pos c2]

   have S1 := u64_or_nat (gt ys (p / 64)) _ (hf _) (Nat.mod_lt (x * 2 ^ (p % 64)) (show 0 < 18446744073709551616 by decide))
   have S2 := trivial
   have S3 : Hid (bits .or .u64 (gt ys (p / 64) : Int) ((x * 2 ^ (p % 64) % 18446744073709551616 : Nat) : Int) = ((gt ys (p / 64) ||| x * 2 ^ (p % 64) % 18446744073709551616 : Nat) : Int)) := S1
   have S4 : Hid (True) := S2
   clear h1 h2 c1 c2 S1 S2
   go_enter Tryz.func117, Tryz.ntmps117
   go_wp2
   go_end0
   rw [R.out, shl_nat, S3.out]
   exact ⟨rfl, hO.set _ _, (Turned.refl _ _).set _ _⟩
  ·have l1 := h1 c1
   have l1' : (p : Int) / 64 < (ys.length : Int) := by omega
   have e1 := hO.cell (p / 64) l1
   have f1 := hO.frozen (p / 64)
   have l2 := h2 c2
   have l2' : (p : Int) / 64 + 1 < (ys.length : Int) := by omega
   have e2 := hO.cell (p / 64 + 1) l2
   have f2 := hO.frozen (p / 64 + 1)
   have A : (IntKind.u64.wrap ((x : Int) * 2 ^ (p % 64)) != 0) = true := by rw [shl_nat, bne0]; simpa using c1
   have B : ((x : Int) / 2 ^ (64 - p % 64) != 0) = true := by rw [shr_cast, bne0]; simpa using c2
   have R : Hid (putL ys p x = ((ys.set (p / 64) (gt ys (p / 64) ||| x * 2 ^ (p % 64) % 18446744073709551616)).set (p / 64 + 1) (gt ys (p / 64 + 1) ||| x / 2 ^ (64 - p % 64)))) := by
    unfold putL Hid
    simp only [if_neg c1, if_neg c2]
    rw [gt_set ys _ _ _ l1, if_neg (by omega)]
   have S1 := u64_or_nat (gt ys (p / 64)) _ (hf _) (Nat.mod_lt (x * 2 ^ (p % 64)) (show 0 < 18446744073709551616 by decide))
   have S2 := u64_or_nat (gt ys (p / 64 + 1)) _ (hf _) (Nat.lt_of_le_of_lt (Nat.div_le_self x (2 ^ (64 - p % 64))) hx)
   have S3 : Hid (bits .or .u64 (gt ys (p / 64) : Int) ((x * 2 ^ (p % 64) % 18446744073709551616 : Nat) : Int) = ((gt ys (p / 64) ||| x * 2 ^ (p % 64) % 18446744073709551616 : Nat) : Int)) := S1
   have S4 : Hid (bits .or .u64 (gt ys (p / 64 + 1) : Int) ((x / 2 ^ (64 - p % 64) : Nat) : Int) = ((gt ys (p / 64 + 1) ||| x / 2 ^ (64 - p % 64) : Nat) : Int)) := S2
   clear h1 h2 c1 c2 S1 S2
   go_enter Tryz.func117, Tryz.ntmps117
   go_wp2
   go_end0
   rw [R.out, shl_nat, S3.out, shr_cast, S4.out]
   exact ⟨rfl, (hO.set _ _).set _ _, ((Turned.refl _ _).set _ _).set _ _⟩
theorem qlay_l (ys : List Nat) (l g cap p x : Nat) (w : World) (hl : ys.length = l) (hO : Own w g ys) (hp : p ≤ 2097152) (hf : Fit ys) (hx : x < 18446744073709551616) (hR : Room ys p x) :
  Calls Tryz.prog 117 #[.slice (some ⟨g, 0, none⟩) l cap, .int .i64 p, .int .u64 x] w fun e w' => e = .returned (.tuple #[]) ∧ Own w' g (putL ys p x) ∧ Turned g w w' := by
 subst hl
 exact qlay_c ys g cap p x w hO hp hf hx hR
theorem qwithin_c (c o n : Nat) (hc : c ≤ 15) (ho : o < ch 15 c) (hn : n ≤ 64) (w : World) :
  Calls Tryz.prog 112 #[.agg #[.int .i64 c, .int .u64 o], .int .i64 n] w fun e w' => e = .returned (.agg #[.int .i64 (cnt (blk 15 c o % 2 ^ n) 15 : Nat), .int .u64 (off (blk 15 c o % 2 ^ n) 15 : Nat)]) ∧ Below w.heap.size w w' := by
 have C1 : Hid (∀ w0, Calls Tryz.prog 81 #[.agg #[.int .i64 c, .int .u64 o]] w0 fun e w' => e = .returned (.int .u64 (blk 15 c o : Nat)) ∧ Below w0.heap.size w0 w') := fun w0 => qwordOf_c c o hc ho w0
 have hb0 := blk_lt 15 c o
 have C2 : Hid (∀ w0, Calls Tryz.prog 132 #[.int .i64 n] w0 fun e w' => e = .returned (.int .u64 ((2 ^ n - 1 : Nat) : Int)) ∧ w' = w0) := fun w0 => mask_n n _ (mask_is n hn) w0
 have p64 := Nat.pow_le_pow_right (n := 2) (by decide) hn
 have A : Hid (bits .and .u64 ((blk 15 c o : Nat) : Int) ((2 ^ n - 1 : Nat) : Int) = ((blk 15 c o % 2 ^ n : Nat) : Int)) := by
  show bits .and .u64 ((blk 15 c o : Nat) : Int) ((2 ^ n - 1 : Nat) : Int) = _
  rw [u64_and_nat _ _ (by omega) (by omega), Nat.and_two_pow_sub_one_eq_mod]
 have hmod := Nat.mod_le (blk 15 c o) (2 ^ n)
 have C3 : Hid (∀ w0, Calls Tryz.prog 125 #[.int .u64 ((blk 15 c o % 2 ^ n : Nat) : Int)] w0 fun e w' => e = .returned (.agg #[.int .i64 (cnt (blk 15 c o % 2 ^ n) 15 : Nat), .int .u64 (off (blk 15 c o % 2 ^ n) 15 : Nat)]) ∧ Below w0.heap.size w0 w') := fun w0 => qblockOf_c _ (by omega) w0
 generalize blk 15 c o = X at *
 generalize X % 2 ^ n = Y at *
 generalize 2 ^ n - 1 = M at *
 generalize cnt Y 15 = K at *
 generalize off Y 15 = O at *
 obtain ⟨W, hW⟩ : ∃ W, W = (w.alloc (.cells #[.int .i64 c, .int .u64 o] 120)).alloc (.cells #[.int .i64 0, .int .u64 0] 120) := ⟨_, rfl⟩
 have bW : Below w.heap.size w W := by rw [hW]; exact (below_alloc w _).alloc (by simp) _
 have B1 : Cel W (w.heap.size + 1) [.int .i64 0, .int .u64 0] 120 := by rw [hW]; exact Cel.new2 w _ _ _
 clear hmod p64 hb0
 go_enter Tryz.func112, Tryz.ntmps112
 go_wp2_with fail
 rw [← hW]
 refine (C1.out _).mono ?_
 rintro e w1 ⟨rfl, hb⟩
 have hw1 := bW.trans (hb.mono bW.size)
 replace B1 := B1.kept hb
 clear hb hW
 go_wp2_with fail
 refine (C2.out _).mono ?_
 rintro e w2 ⟨rfl, rfl⟩
 go_wp2_with fail
 rw [A.out]
 refine (C3.out _).mono ?_
 rintro e w3 ⟨rfl, hb⟩
 have hw3 := hw1.trans (hb.mono hw1.size)
 replace B1 := B1.kept hb
 have f0 := B1.frozen 0
 have f1 := B1.frozen 1
 have c0 := B1.cell 0 rfl
 have c1 := B1.cell 1 rfl
 clear hb C1 C2 C3 A
 go_wp2
 refine bodyPost_ret (v := .agg #[.int .i64 (K : Nat), .int .u64 (O : Nat)]) (by simp [results, Tryz.results112, go_sem, c0, c1]) rfl ⟨rfl, ?_⟩
 exact (hw3.setCell (by simp) _).setCell (by simp) _
theorem qnoughts_c (n k : Nat) (hn : n ≤ 1048576) (hk : k = (n + 63) / 64) (w : World) :
  Calls Tryz.prog 115 #[.int .i64 n] w fun e w' => ∃ g, e = .returned (.agg #[.int .i64 n, .slice (some ⟨g, 0, none⟩) k k]) ∧ w.heap.size ≤ g ∧ Own w' g (rowOf n fun _ => false) ∧ Below w.heap.size w w' := by
 rw [← rep_row n k hk]
 have C : Hid (∀ w0, Calls Tryz.prog 118 #[.int .i64 n] w0 fun e w' => ∃ g, e = .returned (.tuple #[.agg #[.int .i64 n, .slice (some ⟨g, 0, none⟩) k k], .int .i64 0]) ∧ w0.heap.size ≤ g ∧ g < w'.heap.size ∧ Own w' g (List.replicate k 0) ∧ Below w0.heap.size w0 w') := fun w0 => new_ok n k w0 (by omega) (by omega) (by omega)
 obtain ⟨W, hW⟩ : ∃ W, W = w.alloc (.cells #[.int .i64 0, .slice none 0 0] 24) := ⟨_, rfl⟩
 have bW : Below w.heap.size w W := by rw [hW]; exact below_alloc w _
 have B1 : Cel W w.heap.size [.int .i64 0, .slice none 0 0] 24 := by rw [hW]; exact Cel.new w _ _
 have zW : W.heap.size = w.heap.size + 1 := by rw [hW]; simp
 clear hk
 go_enter Tryz.func115, Tryz.ntmps115
 go_wp2_with fail
 rw [← hW]
 refine (C.out _).mono ?_
 rintro e w1 ⟨g, rfl, hg1, hg2, hO, hb⟩
 have hw1 := bW.trans (hb.mono bW.size)
 replace B1 := B1.kept hb
 have f0 := B1.frozen 0
 have f1 := B1.frozen 1
 have c0 := B1.cell 0 rfl
 have c1 := B1.cell 1 rfl
 have hlt := B1.lt
 clear hb C hW
 have HO : Hid (Own w1 g (List.replicate k 0)) := hO
 clear hO
 go_wp2
 refine bodyPost_ret (result_cel1 rfl w.heap.size [.int .i64 (n : Nat), .slice (some ⟨g, 0, none⟩) k k] rfl (((B1.set 0 _).set 1 _).alloc _) Tryz.underlying24 r8info_b) rfl ⟨g, rfl, by omega, ?_, ?_⟩
 ·refine Own.keep (Own.set_other (Own.set_other HO.out ?_ _) ?_ _) (below_alloc _ _)
  ·simp; omega
  ·simp; omega
 ·refine Below.alloc (Below.setCell (Below.setCell hw1 ?_ _) ?_ _) ?_ _
  ·simp
  ·simp
  ·simp; omega
end Go.Proofs.YtpeecabfcgijhaaGreatDoor

namespace Go.Proofs.YtpeecabfcgijhaaGreatDoor
open Go.RowKit Num Bit Bn
set_option linter.unusedVariables false
set_option linter.unusedSimpArgs false
set_option maxRecDepth 100000

set_option maxHeartbeats 4000000 in
theorem qmarkOf_c (cs : List Value) (a : RA8) (g : Nat) (w : World) (h : KI8 w cs a) (h1 : g < a.S.length) (h2 : g < a.T.length) :
  Calls Tryz.prog 109 #[.agg cs.toArray, .int .i64 g] w fun e w' => e = .returned (.agg #[.int .i64 (gi a.S g), .int .i64 (gi a.T g)]) ∧ Below w.heap.size w w' := by
 obtain ⟨⟨ao, cap, qo, dap, so, sc, tO, tc, rfl, _, a1, a2, a3, a4, a5, a6, a7, a8, a9, a10⟩, _, _, sl, tl⟩ := h
 obtain ⟨N, k, V, M, xs, L, ys, S, T⟩ := a
 dsimp only at *
 obtain ⟨b1, o1, rfl, hb1, hc1⟩ := a7 (by omega)
 obtain ⟨b2, o2, rfl, hb2, hc2⟩ := a9 (by omega)
 have i1 : (g : Int) < (S.length : Int) := by omega
 have i2 : (g : Int) < (T.length : Int) := by omega
 have e1 := hc1 g h1
 have e2 := hc2 g h2
 generalize gi S g = s at *
 generalize gi T g = t at *
 clear a1 a2 a4 a5 hc1 hc2
 obtain ⟨W, hW⟩ : ∃ W, W = (w.alloc (.cells #[.int .i64 N, .int .i64 k, .int .i64 V, .int .i64 M, .slice ao xs.length cap, .int .i64 L, .slice qo ys.length dap, .slice (some ⟨b1, o1, none⟩) S.length sc, .slice (some ⟨b2, o2, none⟩) T.length tc] 33)).alloc (.cells #[.int .i64 0, .int .i64 0] 109) := ⟨_, rfl⟩
 have bW : Below w.heap.size w W := by rw [hW]; exact (below_alloc w _).alloc (by simp) _
 have B1 : Cel W w.heap.size [.int .i64 N, .int .i64 k, .int .i64 V, .int .i64 M, .slice ao xs.length cap, .int .i64 L, .slice qo ys.length dap, .slice (some ⟨b1, o1, none⟩) S.length sc, .slice (some ⟨b2, o2, none⟩) T.length tc] 33 := by rw [hW]; exact (Cel.new w _ _).alloc _
 have B2 : Cel W (w.heap.size + 1) [.int .i64 0, .int .i64 0] 109 := by rw [hW]; exact Cel.new2 w _ _ _
 have E1 : W.cell? ⟨b1, o1 + g, none⟩ = some (.int .i64 s) := (bW.cell (p := ⟨b1, o1 + g, none⟩) hb1).trans e1
 have E2 : W.cell? ⟨b2, o2 + g, none⟩ = some (.int .i64 t) := (bW.cell (p := ⟨b2, o2 + g, none⟩) hb2).trans e2
 go_enter Tryz.func109, Tryz.ntmps109
 go_wp2
 rw [← hW]
 clear hW
 refine region_g [11] (fun w' => Cel w' w.heap.size [.int .i64 N, .int .i64 k, .int .i64 V, .int .i64 M, .slice ao xs.length cap, .int .i64 L, .slice qo ys.length dap, .slice (some ⟨b1, o1, none⟩) S.length sc, .slice (some ⟨b2, o2, none⟩) T.length tc] 33 ∧ w'.cell? ⟨b1, o1 + g, none⟩ = some (.int .i64 s) ∧ w'.cell? ⟨b2, o2 + g, none⟩ = some (.int .i64 t)) (by kernel_rfl) ?_
 have hS : Cel W.drew w.heap.size [.int .i64 N, .int .i64 k, .int .i64 V, .int .i64 M, .slice ao xs.length cap, .int .i64 L, .slice qo ys.length dap, .slice (some ⟨b1, o1, none⟩) S.length sc, .slice (some ⟨b2, o2, none⟩) T.length tc] 33 ∧ W.drew.cell? ⟨b1, o1 + g, none⟩ = some (.int .i64 s) ∧ W.drew.cell? ⟨b2, o2 + g, none⟩ = some (.int .i64 t) := ⟨B1, E1, E2⟩
 have bV : Below w.heap.size w W.drew := bW.drew
 have B3 : Cel W.drew (w.heap.size + 1) [.int .i64 0, .int .i64 0] 109 := B2
 generalize W.drew = Y at *
 clear B1 B2 E1 E2 e1 e2 bW
 refine AnyG.take 0 (v := ?vv1) rfl (by kernel_rfl) (by kernel_rfl) (by kernel_rfl) (by kernel_rfl) (fun _ _ _ h => h) hS ?hy1 (by rfl) ?rest1
 case hy1 =>
  intro w0 h0
  go_simp
  try with_reducible rfl
 simp only [Act.put, yq0, yq1, yq2, yq3, yq4, yq5]
 refine AnyG.take 1 (v := ?vv2) rfl (by kernel_rfl) (by kernel_rfl) (by kernel_rfl) (by kernel_rfl) (fun _ _ _ h => h) hS ?hy2 (by rfl) ?rest2
 case hy2 =>
  intro w0 h0
  have c7 := h0.1.cell 7 rfl
  go_simp
  try with_reducible rfl
 simp only [Act.put, yq0, yq1, yq2, yq3, yq4, yq5]
 refine AnyG.take 2 (v := ?vv3) rfl (by kernel_rfl) (by kernel_rfl) (by kernel_rfl) (by kernel_rfl) (fun _ _ _ h => h) hS ?hy3 (by rfl) ?rest3
 case hy3 =>
  intro w0 h0
  go_simp
  try with_reducible rfl
 simp only [Act.put, yq0, yq1, yq2, yq3, yq4, yq5]
 refine AnyG.take 3 (v := ?vv4) rfl (by kernel_rfl) (by kernel_rfl) (by kernel_rfl) (by kernel_rfl) (fun _ _ _ h => h) hS ?hy4 (by rfl) ?rest4
 case hy4 =>
  intro w0 h0
  go_simp
  try with_reducible rfl
 simp only [Act.put, yq0, yq1, yq2, yq3, yq4, yq5]
 refine AnyG.take 4 (v := ?vv5) rfl (by kernel_rfl) (by kernel_rfl) (by kernel_rfl) (by kernel_rfl) (fun _ _ _ h => h) hS ?hy5 (by rfl) ?rest5
 case hy5 =>
  intro w0 h0
  have e1 := h0.2.1
  go_simp
  try with_reducible rfl
 simp only [Act.put, yq0, yq1, yq2, yq3, yq4, yq5]
 refine AnyG.take 5 (v := ?vv6) rfl (by kernel_rfl) (by kernel_rfl) (by kernel_rfl) (by kernel_rfl) (fun _ _ _ h => h) hS ?hy6 (by rfl) ?rest6
 case hy6 =>
  intro w0 h0
  go_simp
  try with_reducible rfl
 simp only [Act.put, yq0, yq1, yq2, yq3, yq4, yq5]
 refine AnyG.take 6 (v := ?vv7) rfl (by kernel_rfl) (by kernel_rfl) (by kernel_rfl) (by kernel_rfl) (fun _ _ _ h => h) hS ?hy7 (by rfl) ?rest7
 case hy7 =>
  intro w0 h0
  have c8 := h0.1.cell 8 rfl
  go_simp
  try with_reducible rfl
 simp only [Act.put, yq0, yq1, yq2, yq3, yq4, yq5]
 refine AnyG.take 7 (v := ?vv8) rfl (by kernel_rfl) (by kernel_rfl) (by kernel_rfl) (by kernel_rfl) (fun _ _ _ h => h) hS ?hy8 (by rfl) ?rest8
 case hy8 =>
  intro w0 h0
  go_simp
  try with_reducible rfl
 simp only [Act.put, yq0, yq1, yq2, yq3, yq4, yq5]
 refine AnyG.take 8 (v := ?vv9) rfl (by kernel_rfl) (by kernel_rfl) (by kernel_rfl) (by kernel_rfl) (fun _ _ _ h => h) hS ?hy9 (by rfl) ?rest9
 case hy9 =>
  intro w0 h0
  go_simp
  try with_reducible rfl
 simp only [Act.put, yq0, yq1, yq2, yq3, yq4, yq5]
 refine AnyG.take 9 (v := ?vv10) rfl (by kernel_rfl) (by kernel_rfl) (by kernel_rfl) (by kernel_rfl) (fun _ _ _ h => h) hS ?hy10 (by rfl) ?rest10
 case hy10 =>
  intro w0 h0
  have e2 := h0.2.2
  go_simp
  try with_reducible rfl
 simp only [Act.put, yq0, yq1, yq2, yq3, yq4, yq5]
 refine AnyG.take 10 (v := ?vv11) rfl (by kernel_rfl) (by kernel_rfl) (by kernel_rfl) (by kernel_rfl) (fun _ _ _ h => h) hS ?hy11 (by rfl) ?rest11
 case hy11 =>
  intro w0 h0
  go_simp
  try with_reducible rfl
 simp only [Act.put, yq0, yq1, yq2, yq3, yq4, yq5]
 refine AnyG.one 11 (by kernel_rfl) rfl ?_
 intro K hK
 have f0 := B3.frozen 0
 have f1 := B3.frozen 1
 have c0 := B3.cell 0 rfl
 have c1 := B3.cell 1 rfl
 have HB : Hid (Cel Y (w.heap.size + 1) [.int .i64 0, .int .i64 0] 109) := B3
 clear hS B3
 go_simp
 refine hK.out _ _ (fun h => absurd (by decide) h) ?_
 clear hK K
 try simp only [Act.put, yq0, yq1, yq2, yq3, yq4, yq5]
 refine AnyG.done (by kernel_rfl) ?_ _
 go_wp2
 refine bodyPost_ret (result_cel1 rfl (w.heap.size + 1) [.int .i64 s, .int .i64 t] rfl ((HB.out.set 0 _).set 1 _) Tryz.underlying109 (by kernel_rfl)) rfl ⟨rfl, ?_⟩
 exact (bV.setCell (by simp) _).setCell (by simp) _
end Go.Proofs.YtpeecabfcgijhaaGreatDoor

namespace Go.Proofs.YtpeecabfcgijhaaGreatDoor
open Go.RowKit Num Bit Bn
set_option linter.unusedVariables false
set_option linter.unusedSimpArgs false
set_option maxRecDepth 100000

theorem Only.tb {g b : Nat} {w w' : World} {cs : List Value} (h : Only g w w') (hc : Tb w b cs) (hb : b ≠ g) : Tb w' b cs := by
 obtain ⟨T, hc⟩ := hc
 exact ⟨T, h.cel hc hb⟩
end Go.Proofs.YtpeecabfcgijhaaGreatDoor
