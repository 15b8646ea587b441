/-
  The contracts of Offset and Block. The contracts of the small functions of the program's package for rows in blocks. The contract of the program's markOf, and tables of sixteen numbers by value. Arrays by value, and what stays of the tables. The contract of the program's along: each block is handed to a function, which may write where it is told.
-/
import Derived.Test.YtfnkklkdajlhlaaGreatDoorL16
import Derived.WalkMore
import Derived.Test.YtfnkklkdajlhlaaGreatDoorL06
import Derived.Test.YtfnkklkdajlhlaaGreatDoorL03
import Derived.Test.YtfnkklkdajlhlaaGreatDoorL01
import Derived.Deep.WholeRow
import Derived.Laws.ResultCell
set_option linter.unusedVariables false
set_option linter.unusedSimpArgs false
set_option maxRecDepth 100000
set_option maxHeartbeats 16000000
namespace Go.Proofs.YtfnkklkdajlhlaaGreatDoor
open Go.RowKit Num Bn Ow
theorem offset_c (x : Nat) (n : Int) (hx : x < 18446744073709551616) (hn : -9223372036854775808 ≤ n ∧ n ≤ 9223372036854775807) (w : World) :
  Calls Tryz.prog 191 #[.int .u64 x, .int .i64 n] w fun e w' => e = .returned (.tuple #[.int .i64 (ofK x n), .int .u64 (ofO x n)]) ∧ Below w.heap.size w w' := by
 by_cases hw : n < 0 ∨ 62 < n
 ·rw [show ofK x n = 0 by unfold ofK; rw [if_pos hw], show ofO x n = 0 by unfold ofO; rw [if_pos hw]]
  have W : Hid (∀ w, Calls Tryz.prog 202 #[.int .i64 n] w fun e w' => e = .returned (.bool false) ∧ w' = w) := within_out n hw
  clear hw
  go_enter Tryz.func191, Tryz.ntmps191
  go_wp2_with fail
  refine (W.out _).mono ?_
  rintro e w1 ⟨rfl, hw1⟩
  rw [hw1]
  clear hw1 w1
  go_wp2
  go_ret2
  exact ⟨rfl, Below.refl _ _⟩
 have W : Hid (∀ w, Calls Tryz.prog 202 #[.int .i64 n] w fun e w' => e = .returned (.bool true) ∧ w' = w) := within_in n (by omega) (by omega)
 rw [show ofK x n = cnt x n.toNat by unfold ofK; rw [if_neg hw], show ofO x n = off x n.toNat by unfold ofO; rw [if_neg hw]]
 obtain ⟨m, rfl⟩ := Int.eq_ofNat_of_zero_le (show 0 ≤ n by omega)
 rw [Int.toNat_natCast]
 have hm : m ≤ 62 := by omega
 clear hw
 have R : Hid (∀ w, Calls Tryz.prog 203 #[.int .i64 0] w fun e w' => e = .returned (.agg (wv (rowP 62 0)).toArray) ∧ Below w.heap.size w w') := rowOf_c 0 (by omega)
 have G : Hid (∀ (g i : Nat), i < 62 → ∀ w, Cel w g (wv (rowP 62 i)) 233 → Calls Tryz.prog 204 #[.pointer (some ⟨g, 0, none⟩), .int .i64 i] w fun e w' => e = .returned (.tuple #[]) ∧ Cel w' g (wv (rowP 62 (i + 1))) 233 ∧ Below g w w') := grow_c
 have x0 : (0 : Int) ≤ (x : Int) := by omega
 go_enter Tryz.func191, Tryz.ntmps191
 go_wp2_with fail
 refine (W.out _).mono ?_
 rintro e w1 ⟨rfl, hw1⟩
 rw [hw1]
 clear hw1 w1 W
 go_wp2_with fail
 refine (R.out _).mono ?_
 rintro e w1 ⟨rfl, hb1⟩
 go_wp2_with (refine alloc_row ?_)
 intro w2 hc2 hb2 hs2
 go_wp2_with (refine store_row w1.heap.size _ _ rfl rfl hc2 (by simp) (length_rowP 62 0) ?_)
 intro w3 hc3 hb3
 have hB := (hb1.trans (hb2.mono hb1.size)).trans (hb3.mono hb1.size)
 have hg : w.heap.size ≤ w1.heap.size := hb1.size
 clear hb1 hc2 hb2 hs2 hb3 w2 R
 go_wp2
 generalize w1.heap.size = g at *
 clear w1
 go_loopw [6, 7, 9, 15] (fun c l _ i wr => ∃ p : Nat, p ≤ m ∧ i = .int .i64 p ∧ c = .int .i64 (cnt x p) ∧ l = .int .u64 (off x p) ∧ Cel wr g (wv (rowP 62 p)) 233 ∧ Below w.heap.size w wr) (fun _ _ _ i _ => m - (intOf i).toNat)
 case atStart => exact ⟨0, Nat.zero_le _, rfl, rfl, rfl, hc3, hB⟩
 case round =>
  obtain ⟨q, hq, rfl, rfl, rfl, hc, hb⟩ := hrel
  clear hc3 hB
  obtain ⟨c, hcq⟩ : ∃ c, Hid (c = cnt x q) := ⟨_, rfl⟩
  obtain ⟨O, hOq⟩ : ∃ O, Hid (O = off x q) := ⟨_, rfl⟩
  have c62 : c ≤ q := by rw [hcq.out]; exact cnt_le x q
  have lt := off_lt x q
  have l62 := ch62 q (cnt x q) (by omega)
  have bO : O < 4611686018427387904 := by rw [hOq.out]; omega
  rw [← hcq.out, ← hOq.out]
  clear lt l62
  by_cases hp : q < m
  ·have hp2 : (q : Int) < (m : Int) := by omega
   have q64 : (q : Int) < 64 := by omega
   have D : Hid (∀ w, Cel w g (wv (rowP 62 q)) 233 → Calls Tryz.prog 204 #[.pointer (some ⟨g, 0, none⟩), .int .i64 q] w fun e w' => e = .returned (.tuple #[]) ∧ Cel w' g (wv (rowP 62 (q + 1))) 233 ∧ Below g w w') := G.out g q (by omega)
   by_cases hbit : x / 2 ^ q % 2 = 1
   ·have T : bits .and .u64 ((x : Int) / 2 ^ q) 1 = 1 := by rw [bit_and _ _ x0 (by omega), Int.toNat_natCast, hbit]; rfl
    have ec : cnt x (q + 1) = c + 1 := by rw [cnt, hbit, hcq.out]
    have eo : off x (q + 1) = O + ch q (c + 1) := by rw [off, if_pos hbit, ec, hOq.out]
    have e1 := cel_wv hc (c + 1) (by rw [length_rowP]; omega)
    rw [gt_rowP _ _ _ (by omega)] at e1
    have b1 := ch62 q (c + 1) (by omega)
    have HC : Hid (cnt x (q + 1) = c + 1) := ec
    have l1 : (c : Int) + 1 < 63 := by omega
    have ez : ((c : Int) + 1).toNat = c + 1 := by omega
    generalize ch q (c + 1) = Z at *
    have HO : Hid (off x (q + 1) = O + Z) := eo
    clear ec eo
    have HCel : Hid (Cel wr g (wv (rowP 62 q)) 233) := hc
    clear hc G
    go_wp2_with fail
    refine (D.out _ HCel.out).mono ?_
    rintro e w4 ⟨rfl, hc4, hb4⟩
    have hb5 := hb.trans (hb4.mono hg)
    clear hb hb4 e1
    go_wp2
    exact ⟨⟨q + 1, by omega, by go_num, by rw [HC.out]; go_num, by rw [HO.out]; go_num, hc4, hb5⟩, by simp only [intOf]; omega⟩
   ·have T : bits .and .u64 ((x : Int) / 2 ^ q) 1 = 0 := by rw [bit_and _ _ x0 (by omega), Int.toNat_natCast, show x / 2 ^ q % 2 = 0 by omega]; rfl
    have HC : Hid (cnt x (q + 1) = c) := by show _ = _; rw [cnt, hcq.out]; omega
    have HO : Hid (off x (q + 1) = O) := by show _ = _; rw [off, if_neg hbit, hOq.out, Nat.add_zero]
    have HCel : Hid (Cel wr g (wv (rowP 62 q)) 233) := hc
    clear hc G
    go_wp2_with fail
    refine (D.out _ HCel.out).mono ?_
    rintro e w4 ⟨rfl, hc4, hb4⟩
    have hb5 := hb.trans (hb4.mono hg)
    clear hb hb4
    go_wp2
    exact ⟨⟨q + 1, by omega, by go_num, by rw [HC.out], by rw [HO.out], hc4, hb5⟩, by simp only [intOf]; omega⟩
  ·obtain rfl : q = m := by omega
   clear G
   go_wp2
   go_ret2
   rw [← hcq.out, ← hOq.out]
   exact ⟨rfl, hb⟩
end Go.Proofs.YtfnkklkdajlhlaaGreatDoor
namespace Go.Proofs.YtfnkklkdajlhlaaGreatDoor
open Go.RowKit Num Bit Bn
theorem qblocks_c (m : Nat) (hm : m ≤ 1048576) (w : World) :
  Calls Tryz.prog 154 #[.int .i64 m] w fun e w' => e = .returned (.int .i64 (nb m)) ∧ w' = w := by
 go_enter Tryz.func154, Tryz.ntmps154
 go_wp2
 go_ret
 exact ⟨ret_int (by unfold nb; omega), rfl⟩
theorem qgroups_c (n : Nat) (hn : n ≤ 1048576) (w : World) :
  Calls Tryz.prog 157 #[.int .i64 n] w fun e w' => e = .returned (.int .i64 ((max 1 n + 7) / 8 : Nat)) ∧ w' = w := by
 go_enter Tryz.func157, Tryz.ntmps157
 go_wp2
 ·go_ret
  exact ⟨ret_int (by omega), rfl⟩
 ·go_ret
  exact ⟨ret_int (by omega), rfl⟩
theorem qbehind_c (s p c wd o : Nat) (hs : s ≤ 16777216) (hp : p ≤ 16777216) (hc : c ≤ 15) (hw : wd ≤ 15) (w : World) :
  Calls Tryz.prog 158 #[.agg #[.int .i64 s, .int .i64 p], .agg #[.int .i64 c, .int .u64 o], .int .i64 wd] w fun e w' => e = .returned (.agg #[.int .i64 (s + c : Nat), .int .i64 (p + wd : Nat)]) ∧ Below w.heap.size w w' := by
 have e1 : IntKind.i64.wrap ((s : Int) + (c : Int)) = ((s + c : Nat) : Int) := by rw [IntKind.wrap_i64]; omega
 have e2 : IntKind.i64.wrap ((p : Int) + (wd : Int)) = ((p + wd : Nat) : Int) := by rw [IntKind.wrap_i64]; omega
 go_enter Tryz.func158, Tryz.ntmps158
 go_wp2
 refine bodyPost_ret (v := .agg #[.int .i64 (s + c : Nat), .int .i64 (p + wd : Nat)]) (by simp [results, Tryz.results158, go_sem]) rfl ⟨rfl, ?_⟩
 exact ((below_alloc w _).alloc (by simp) _).alloc (by simp; omega) _
theorem qblockOf_c (x : Nat) (hx : x < 18446744073709551616) (w : World) :
  Calls Tryz.prog 156 #[.int .u64 x] w fun e w' => e = .returned (.agg #[.int .i64 (cnt x 15 : Nat), .int .u64 (off x 15 : Nat)]) ∧ Below w.heap.size w w' := by
 have C : Hid (∀ w0, Calls Tryz.prog 191 #[.int .u64 x, .int .i64 15] w0 fun e w' => e = .returned (.tuple #[.int .i64 (cnt x 15 : Nat), .int .u64 (off x 15 : Nat)]) ∧ Below w0.heap.size w0 w') := fun w0 => offset_c x 15 hx (by decide) w0
 generalize cnt x 15 = X at *
 generalize off x 15 = Y at *
 obtain ⟨W, hW⟩ : ∃ W, W = w.alloc (.cells #[.int .i64 0, .int .u64 0] 165) := ⟨_, rfl⟩
 have bW := yb1 hW
 have B1 := yc1 hW
 go_enter Tryz.func156, Tryz.ntmps156
 go_wp2_with fail
 rw [← hW]
 refine (C.out _).mono ?_
 rintro e w1 ⟨rfl, hb⟩
 have hw1 := bW.trans (hb.mono bW.size)
 replace B1 := B1.kept hb
 have f0 := B1.frozen 0
 have f1 := B1.frozen 1
 have c0 := B1.cell 0 rfl
 have c1 := B1.cell 1 rfl
 clear hb hW C
 go_wp2
 refine bodyPost_ret (v := .agg #[.int .i64 (X : Nat), .int .u64 (Y : Nat)]) (by simp [results, Tryz.results156, go_sem, c0, c1]) rfl ⟨rfl, ?_⟩
 exact (hw1.setCell (by simp) _).setCell (by simp) _
theorem qlay_c (ys : List Nat) (g cap p x : Nat) (w : World) (hO : Own w g ys) (hp : p ≤ 2097152) (hf : Fit ys) (hx : x < 18446744073709551616)
  (hR : Room ys p x) :
  Calls Tryz.prog 149 #[.slice (some ⟨g, 0, none⟩) ys.length cap, .int .i64 p, .int .u64 x] w fun e w' => e = .returned (.tuple #[]) ∧ Own w' g (putL ys p x) ∧ Turned g w w' := by
 obtain ⟨h1, h2⟩ := hR
 by_cases c1 : x * 2 ^ (p % 64) % 18446744073709551616 = 0
 ·by_cases c2 : x / 2 ^ (64 - p % 64) = 0
  ·have A : (IntKind.u64.wrap ((x : Int) * 2 ^ (p % 64)) != 0) = false := by rw [shl_nat, bne0]; simpa using c1
   have B : ((x : Int) / 2 ^ (64 - p % 64) != 0) = false := by rw [shr_cast, bne0]; simpa using c2
   have R : Hid (putL ys p x = ys) := by
    unfold putL Hid
    simp only [if_pos c1, if_pos c2]
   have S1 := trivial
   have S2 := trivial
   have S3 : Hid (True) := S1
   have S4 : Hid (True) := S2
   clear h1 h2 c1 c2 S1 S2
   go_enter Tryz.func149, Tryz.ntmps149
   go_wp2
   go_end0
   rw [R.out]
   exact ⟨rfl, hO, Turned.refl _ _⟩
  ·have l2 := h2 c2
   have l2' : (p : Int) / 64 + 1 < (ys.length : Int) := by omega
   have e2 := hO.cell (p / 64 + 1) l2
   have f2 := hO.frozen (p / 64 + 1)
   have A : (IntKind.u64.wrap ((x : Int) * 2 ^ (p % 64)) != 0) = false := by rw [shl_nat, bne0]; simpa using c1
   have B : ((x : Int) / 2 ^ (64 - p % 64) != 0) = true := by rw [shr_cast, bne0]; simpa using c2
   have R : Hid (putL ys p x = (ys.set (p / 64 + 1) (gt ys (p / 64 + 1) ||| x / 2 ^ (64 - p % 64)))) := by
    unfold putL Hid
    simp only [if_pos c1, if_neg c2]
   have S1 := trivial
   have S2 := u64_or_nat (gt ys (p / 64 + 1)) _ (hf _) (Nat.lt_of_le_of_lt (Nat.div_le_self x (2 ^ (64 - p % 64))) hx)
   have S3 : Hid (True) := S1
   have S4 : Hid (bits .or .u64 (gt ys (p / 64 + 1) : Int) ((x / 2 ^ (64 - p % 64) : Nat) : Int) = ((gt ys (p / 64 + 1) ||| x / 2 ^ (64 - p % 64) : Nat) : Int)) := S2
   clear h1 h2 c1 c2 S1 S2
   go_enter Tryz.func149, Tryz.ntmps149
   go_wp2
   go_end0
   rw [R.out, shr_cast, S4.out]
   exact ⟨rfl, hO.set _ _, (Turned.refl _ _).set _ _⟩
 ·by_cases c2 : x / 2 ^ (64 - p % 64) = 0
  ·have l1 := h1 c1
   have l1' : (p : Int) / 64 < (ys.length : Int) := by omega
   have e1 := hO.cell (p / 64) l1
   have f1 := hO.frozen (p / 64)
   have A : (IntKind.u64.wrap ((x : Int) * 2 ^ (p % 64)) != 0) = true := by rw [shl_nat, bne0]; simpa using c1
   have B : ((x : Int) / 2 ^ (64 - p % 64) != 0) = false := by rw [shr_cast, bne0]; simpa using c2
   have R : Hid (putL ys p x = (ys.set (p / 64) (gt ys (p / 64) ||| x * 2 ^ (p % 64) % 18446744073709551616))) := by
    unfold putL Hid
    simp only [if_neg c1, if_pos c2]
   have S1 := u64_or_nat (gt ys (p / 64)) _ (hf _) (Nat.mod_lt (x * 2 ^ (p % 64)) (show 0 < 18446744073709551616 by decide))
   have S2 := trivial
   have S3 : Hid (bits .or .u64 (gt ys (p / 64) : Int) ((x * 2 ^ (p % 64) % 18446744073709551616 : Nat) : Int) = ((gt ys (p / 64) ||| x * 2 ^ (p % 64) % 18446744073709551616 : Nat) : Int)) := S1
   have S4 : Hid (True) := S2
   clear h1 h2 c1 c2 S1 S2
   go_enter Tryz.func149, Tryz.ntmps149
   go_wp2
   go_end0
   rw [R.out, shl_nat, S3.out]
   exact ⟨rfl, hO.set _ _, (Turned.refl _ _).set _ _⟩
  ·have l1 := h1 c1
   have l1' : (p : Int) / 64 < (ys.length : Int) := by omega
   have e1 := hO.cell (p / 64) l1
   have f1 := hO.frozen (p / 64)
   have l2 := h2 c2
   have l2' : (p : Int) / 64 + 1 < (ys.length : Int) := by omega
   have e2 := hO.cell (p / 64 + 1) l2
   have f2 := hO.frozen (p / 64 + 1)
   have A : (IntKind.u64.wrap ((x : Int) * 2 ^ (p % 64)) != 0) = true := by rw [shl_nat, bne0]; simpa using c1
   have B : ((x : Int) / 2 ^ (64 - p % 64) != 0) = true := by rw [shr_cast, bne0]; simpa using c2
   have R : Hid (putL ys p x = ((ys.set (p / 64) (gt ys (p / 64) ||| x * 2 ^ (p % 64) % 18446744073709551616)).set (p / 64 + 1) (gt ys (p / 64 + 1) ||| x / 2 ^ (64 - p % 64)))) := by
    unfold putL Hid
    simp only [if_neg c1, if_neg c2]
    rw [gt_set ys _ _ _ l1, if_neg (by omega)]
   have S1 := u64_or_nat (gt ys (p / 64)) _ (hf _) (Nat.mod_lt (x * 2 ^ (p % 64)) (show 0 < 18446744073709551616 by decide))
   have S2 := u64_or_nat (gt ys (p / 64 + 1)) _ (hf _) (Nat.lt_of_le_of_lt (Nat.div_le_self x (2 ^ (64 - p % 64))) hx)
   have S3 : Hid (bits .or .u64 (gt ys (p / 64) : Int) ((x * 2 ^ (p % 64) % 18446744073709551616 : Nat) : Int) = ((gt ys (p / 64) ||| x * 2 ^ (p % 64) % 18446744073709551616 : Nat) : Int)) := S1
   have S4 : Hid (bits .or .u64 (gt ys (p / 64 + 1) : Int) ((x / 2 ^ (64 - p % 64) : Nat) : Int) = ((gt ys (p / 64 + 1) ||| x / 2 ^ (64 - p % 64) : Nat) : Int)) := S2
   clear h1 h2 c1 c2 S1 S2
   go_enter Tryz.func149, Tryz.ntmps149
   go_wp2
   go_end0
   rw [R.out, shl_nat, S3.out, shr_cast, S4.out]
   exact ⟨rfl, (hO.set _ _).set _ _, ((Turned.refl _ _).set _ _).set _ _⟩
theorem qlay_l (ys : List Nat) (l g cap p x : Nat) (w : World) (hl : ys.length = l) (hO : Own w g ys) (hp : p ≤ 2097152) (hf : Fit ys) (hx : x < 18446744073709551616) (hR : Room ys p x) :
  Calls Tryz.prog 149 #[.slice (some ⟨g, 0, none⟩) l cap, .int .i64 p, .int .u64 x] w fun e w' => e = .returned (.tuple #[]) ∧ Own w' g (putL ys p x) ∧ Turned g w w' := by
 subst hl
 exact qlay_c ys g cap p x w hO hp hf hx hR
theorem qnoughts_c (n k : Nat) (hn : n ≤ 1048576) (hk : k = (n + 63) / 64) (w : World) :
  Calls Tryz.prog 147 #[.int .i64 n] w fun e w' => ∃ g, e = .returned (.agg #[.int .i64 n, .slice (some ⟨g, 0, none⟩) k k]) ∧ w.heap.size ≤ g ∧ Own w' g (rowOf n fun _ => false) ∧ Below w.heap.size w w' := by
 rw [← rep_row n k hk]
 have C : Hid (∀ w0, Calls Tryz.prog 104 #[.int .i64 n] w0 fun e w' => ∃ g, e = .returned (.tuple #[.agg #[.int .i64 n, .slice (some ⟨g, 0, none⟩) k k], .int .i64 0]) ∧ w0.heap.size ≤ g ∧ g < w'.heap.size ∧ Own w' g (List.replicate k 0) ∧ Below w0.heap.size w0 w') := fun w0 => new_ok n k w0 (by omega) (by omega) (by omega)
 obtain ⟨W, hW⟩ : ∃ W, W = w.alloc (.cells #[.int .i64 0, .slice none 0 0] 33) := ⟨_, rfl⟩
 have bW := yb1 hW
 have B1 := yc1 hW
 have zW : W.heap.size = w.heap.size + 1 := by rw [hW]; simp
 clear hk
 go_enter Tryz.func147, Tryz.ntmps147
 go_wp2_with fail
 rw [← hW]
 refine (C.out _).mono ?_
 rintro e w1 ⟨g, rfl, hg1, hg2, hO, hb⟩
 have hw1 := bW.trans (hb.mono bW.size)
 replace B1 := B1.kept hb
 have f0 := B1.frozen 0
 have f1 := B1.frozen 1
 have c0 := B1.cell 0 rfl
 have c1 := B1.cell 1 rfl
 have hlt := B1.lt
 clear hb C hW
 have HO : Hid (Own w1 g (List.replicate k 0)) := hO
 clear hO
 go_wp2
 refine bodyPost_ret (result_cel1 rfl w.heap.size [.int .i64 (n : Nat), .slice (some ⟨g, 0, none⟩) k k] rfl (((B1.set 0 _).set 1 _).alloc _) Tryz.underlying33 r8info_b) rfl ⟨g, rfl, by omega, ?_, ?_⟩
 ·refine Own.keep (Own.set_other (Own.set_other HO.out ?_ _) ?_ _) (below_alloc _ _)
  ·simp; omega
  ·simp; omega
 ·refine Below.alloc (Below.setCell (Below.setCell hw1 ?_ _) ?_ _) ?_ _
  ·simp
  ·simp
  ·simp; omega
theorem Only.tb {g b : Nat} {w w' : World} {cs : List Value} (h : Only g w w') (hc : Tb w b cs) (hb : b ≠ g) : Tb w' b cs := by
 obtain ⟨T, hc⟩ := hc
 exact ⟨T, h.cel hc hb⟩
structure Fr8 (lo hi : Nat) (w w' : World) : Prop where
 below : Below lo w w'
 high : ∀ b, hi ≤ b → b < w.heap.size → w'.heap[b]? = w.heap[b]?
end Go.Proofs.YtfnkklkdajlhlaaGreatDoor
