/-
  The contracts of the document's Width, Offset and Block. The contract of the document's row: the way back from classes and offsets. Rows in blocks: the classes laid by Make, the offsets laid by From, and the way back from them: plain. What stands while a row in blocks is built: the boxes, and four rows that grow, each in blocks of its own.
-/
import Derived.Test.YtcaalcjcpddhaaaGreatS36
set_option linter.unusedVariables false
set_option linter.unusedSimpArgs false
set_option maxRecDepth 100000
namespace Go.Proofs.YtcaalcjcpddhaaaGreat
open Go.RowKit Num Bn
namespace Ow
set_option maxHeartbeats 2000000 in
theorem rwidth_c (n k : Int) (w : World) :
  Calls Tryz.prog 35 #[.int .i64 n, .int .i64 k] w fun e w' => e = .returned (.int .i64 (wdN n k)) ∧ Below w.heap.size w w' := by
 have C : Hid (∀ w0, Calls Tryz.prog 62 #[.int .i64 n, .int .i64 k] w0 fun e w' => e = .returned (.int .u64 (chN n k)) ∧ Below w0.heap.size w0 w') := fun w0 => rchoose_c n k w0
 have b := chN_le n k
 unfold wdN
 generalize chN n k = c at *
 by_cases h0 : c = 0
 ·subst h0
  rw [if_pos rfl]
  go_enter Tryz.func35, Tryz.ntmps35
  go_wp2_with fail
  refine (C.out _).mono ?_
  rintro e w1 ⟨rfl, hb⟩
  go_wp2
  go_ret
  exact ⟨rfl, hb⟩
 ·rw [if_neg h0]
  obtain ⟨d, rfl⟩ : ∃ d, c = d + 1 := ⟨c - 1, by omega⟩
  rw [Nat.add_sub_cancel]
  have L : Hid (∀ w0, Calls Tryz.prog 63 #[.int .u64 d] w0 fun e w' => e = .returned (.int .i64 (Go.bitLen d)) ∧ w' = w0) := fun w0 => by
   have := reflen_c (d : Int) (by omega) (by omega) w0
   unfold lenI at this
   rw [Int.toNat_natCast] at this
   exact this
  have c1 : (((d + 1 : Nat) : Int) == 0) = false := by simp; omega
  generalize Go.bitLen d = Z at *
  go_enter Tryz.func35, Tryz.ntmps35
  go_wp2_with fail
  refine (C.out _).mono ?_
  rintro e w1 ⟨rfl, hb⟩
  have e2 : ((d + 1 : Nat) : Int) = (d : Int) + 1 := by omega
  rw [e2]
  go_wp2_with fail
  refine (L.out _).mono ?_
  rintro e w2 ⟨rfl, h2⟩
  rw [h2]
  clear h2 w2
  go_wp2
  go_ret
  exact ⟨rfl, hb⟩
set_option maxHeartbeats 2000000 in
theorem roffset_c (x : Nat) (n : Int) (hx : x < 18446744073709551616) (h0 : -9223372036854775808 ≤ n) (h1 : n ≤ 9223372036854775807) (w : World) :
  Calls Tryz.prog 32 #[.int .u64 x, .int .i64 n] w fun e w' => e = .returned (.tuple #[.int .i64 (ofK x n), .int .u64 (ofO x n)]) ∧ Below w.heap.size w w' := by
 by_cases hn : n < 0
 ·rw [show ofK x n = 0 by unfold ofK; rw [if_pos (.inl hn)], show ofO x n = 0 by unfold ofO; rw [if_pos (.inl hn)]]
  go_enter Tryz.func32, Tryz.ntmps32
  go_wp2
  go_ret2
  exact ⟨rfl, Below.refl _ _⟩
 by_cases hn2 : 62 < n
 ·rw [show ofK x n = 0 by unfold ofK; rw [if_pos (.inr hn2)], show ofO x n = 0 by unfold ofO; rw [if_pos (.inr hn2)]]
  go_enter Tryz.func32, Tryz.ntmps32
  go_wp2
  go_ret2
  exact ⟨rfl, Below.refl _ _⟩
 rw [show ofK x n = cnt x n.toNat by unfold ofK; rw [if_neg (by omega)], show ofO x n = off x n.toNat by unfold ofO; rw [if_neg (by omega)]]
 obtain ⟨m, rfl⟩ := Int.eq_ofNat_of_zero_le (show 0 ≤ n by omega)
 rw [Int.toNat_natCast]
 have hm : m ≤ 62 := by omega
 have R : Hid (∀ w0, Calls Tryz.prog 61 #[.int .u64 x, .int .i64 m] w0 fun e w' => e = .returned (.int .i64 (cnt x m)) ∧ w' = w0) := fun w0 => by
  have := refrank_c (x : Int) (m : Int) (by omega) (by omega) (by omega) (by omega) w0
  unfold rankI at this
  rw [Int.toNat_natCast, Int.toNat_natCast, Nat.min_eq_left (by omega)] at this
  exact this
 have x0 : (0 : Int) ≤ (x : Int) := by omega
 have C : Hid (∀ w0 (p : Nat), p < m → Calls Tryz.prog 62 #[.int .i64 p, .int .i64 (cnt x (p + 1))] w0 fun e w' => e = .returned (.int .u64 (ch p (cnt x (p + 1)))) ∧ Below w0.heap.size w0 w') := fun w0 p hp => by
  have := rchoose_c p (cnt x (p + 1)) w0
  rw [chN_in p _ (by omega)] at this
  exact this
 go_enter Tryz.func32, Tryz.ntmps32
 go_wp2_with fail
 refine (R.out _).mono ?_
 rintro e w1 ⟨rfl, hw1⟩
 rw [hw1]
 clear hw1 w1 R
 obtain ⟨K, hK⟩ : ∃ K, Hid (K = cnt x m) := ⟨_, rfl⟩
 rw [← hK.out]
 go_wp2
 go_loopw [7, 8, 9] (fun o l i wr => ∃ p O : Nat, p ≤ m ∧ i = .int .i64 ((p : Int) - 1) ∧ l = .int .i64 (cnt x p) ∧ o = .int .u64 O ∧ O + off x p = off x m ∧ Below w.heap.size w wr) (fun _ _ i _ => (intOf i + 1).toNat)
 case atStart => exact ⟨m, 0, Nat.le_refl _, by go_num, by rw [hK.out], rfl, by omega, Below.refl _ _⟩
 case round =>
  obtain ⟨p, O, hp, rfl, rfl, rfl, hO, hwr⟩ := hrel
  by_cases hp0 : p = 0
  ·subst hp0
   have HO : Hid (O = off x m) := hO
   clear hO
   go_wp2
   go_ret2
   rw [← HO.out, ← hK.out]
   exact ⟨rfl, hwr⟩
  ·obtain ⟨q, rfl⟩ : ∃ q, p = q + 1 := ⟨p - 1, by omega⟩
   have e1 : ((q + 1 : Nat) : Int) - 1 = (q : Int) := by omega
   rw [e1]
   have q64 : (q : Int) < 64 := by omega
   have lt := off_lt x m
   have l62 := ch62 m (cnt x m) hm
   by_cases hb : x / 2 ^ q % 2 = 1
   ·have T : ((x : Int) / 2 ^ q).tmod 2 = 1 := by rw [bit_tmod _ _ x0, Int.toNat_natCast, hb]; rfl
    have ec : cnt x (q + 1) = cnt x q + 1 := by rw [cnt, hb]
    have eo : off x (q + 1) = off x q + ch q (cnt x (q + 1)) := by rw [off, if_pos hb]
    have D : Hid (∀ w0, Calls Tryz.prog 62 #[.int .i64 q, .int .i64 (cnt x (q + 1))] w0 fun e w' => e = .returned (.int .u64 (ch q (cnt x (q + 1)))) ∧ Below w0.heap.size w0 w') := fun w0 => C.out w0 q (by omega)
    rw [eo] at hO
    generalize ch q (cnt x (q + 1)) = Z at *
    have HO : Hid (O + Z + off x q = off x m) := by show O + Z + off x q = off x m; omega
    have bO : O + Z < 4611686018427387904 := by omega
    obtain ⟨c, hc⟩ : ∃ c, Hid (c = cnt x q) := ⟨_, rfl⟩
    have ec2 : ((cnt x (q + 1) : Nat) : Int) = (c : Int) + 1 := by rw [hc.out, ec]; omega
    rw [ec2] at D
    rw [ec2]
    have c64 : c ≤ 62 := by rw [hc.out]; have := cnt_le x q; omega
    clear ec eo hO lt l62 C ec2
    go_wp2_with fail
    refine (D.out _).mono ?_
    rintro e w2 ⟨rfl, hb2⟩
    have hw2 := hwr.trans (hb2.mono hwr.size)
    clear D hb2 hwr
    go_wp2
    exact ⟨⟨q, O + Z, by omega, by go_num, by rw [← hc.out], by go_num, HO.out, hw2⟩, by simp only [intOf]; omega⟩
   ·have T : ((x : Int) / 2 ^ q).tmod 2 = 0 := by rw [bit_tmod _ _ x0, Int.toNat_natCast, show x / 2 ^ q % 2 = 0 by omega]; rfl
    have ec : cnt x (q + 1) = cnt x q := by rw [cnt]; omega
    have HO : Hid (O + off x q = off x m) := by
     rw [off, if_neg hb] at hO
     exact hO
    rw [ec]
    clear ec hO lt l62 C
    go_wp2
    exact ⟨⟨q, O, by omega, by go_num, rfl, rfl, HO.out, hwr⟩, by simp only [intOf]; omega⟩
theorem shl_one (k : Nat) (h : k < 64) : IntKind.u64.wrap ((2 : Int) ^ k) = ((2 ^ k : Nat) : Int) := by
 have e : ((2 : Int) ^ k) = ((2 ^ k : Nat) : Int) := by rw [Int.natCast_pow]; rfl
 have := two_pow_lt k h
 rw [e, IntKind.wrap_u64]
 generalize (2 ^ k : Nat) = Z at *
 omega
theorem or_high (X p : Nat) (h : X % 2 ^ (p + 1) = 0) : X ||| 2 ^ p = X + 2 ^ p := by
 have e : X = 2 ^ (p + 1) * (X / 2 ^ (p + 1)) := by
  have := Nat.div_add_mod X (2 ^ (p + 1))
  omega
 have lt : 2 ^ p < 2 ^ (p + 1) := by rw [Nat.pow_succ]; have := Nat.two_pow_pos p; omega
 rw [e]
 exact (Nat.two_pow_add_eq_or_of_lt lt _).symm
theorem mod_down (X p : Nat) (h : X % 2 ^ (p + 1) = 0) : X % 2 ^ p = 0 := by
 have := mod_bit X p
 have q := Nat.two_pow_pos p
 omega
theorem mod_plus (X p : Nat) (h : X % 2 ^ (p + 1) = 0) : (X + 2 ^ p) % 2 ^ p = 0 := by
 rw [Nat.add_mod_right]
 exact mod_down X p h
set_option maxHeartbeats 2000000 in
theorem rblock_c (n k : Int) (o : Nat) (ho : o < 18446744073709551616) (w : World) :
  Calls Tryz.prog 105 #[.int .i64 n, .int .i64 k, .int .u64 o] w fun e w' => e = .returned (.tuple #[.int .u64 (bkX n k o), .bool (bkB n k o)]) ∧ Below w.heap.size w w' := by
 have C : Hid (∀ w0, Calls Tryz.prog 62 #[.int .i64 n, .int .i64 k] w0 fun e w' => e = .returned (.int .u64 (chN n k)) ∧ Below w0.heap.size w0 w') := fun w0 => rchoose_c n k w0
 by_cases hc : chN n k ≤ o
 ·rw [show bkX n k o = 0 by unfold bkX; rw [if_pos hc], show bkB n k o = false by unfold bkB; simp; omega]
  have hc2 : (chN n k : Int) ≤ (o : Int) := by omega
  generalize chN n k = Z at *
  go_enter Tryz.func105, Tryz.ntmps105
  go_wp2_with fail
  refine (C.out _).mono ?_
  rintro e w1 ⟨rfl, hb⟩
  go_wp2
  go_ret2
  exact ⟨rfl, hb⟩
 ·have hin : ¬ (n < 0 ∨ 62 < n ∨ k < 0 ∨ n < k) := by
   intro h
   apply hc
   unfold chN
   rw [if_pos h]
   omega
  rw [show bkX n k o = blk n.toNat k.toNat o by unfold bkX; rw [if_neg hc], show bkB n k o = true by unfold bkB; simp; omega]
  obtain ⟨a, rfl⟩ := Int.eq_ofNat_of_zero_le (show 0 ≤ n by omega)
  obtain ⟨b, rfl⟩ := Int.eq_ofNat_of_zero_le (show 0 ≤ k by omega)
  rw [Int.toNat_natCast, Int.toNat_natCast]
  have ha : a ≤ 62 := by omega
  have hba : b ≤ a := by omega
  have hc2 : ¬ ((chN a b : Nat) : Int) ≤ (o : Int) := by omega
  clear hin
  generalize chN a b = Z at *
  go_enter Tryz.func105, Tryz.ntmps105
  go_wp2_with fail
  refine (C.out _).mono ?_
  rintro e w1 ⟨rfl, hb⟩
  clear C
  go_wp2
  go_loopw [1, 2, 8, 9, 10] (fun kv ov xv i cv wr => ∃ p K O X : Nat, p ≤ a ∧ K ≤ 62 ∧ O < 18446744073709551616 ∧ i = .int .i64 ((p : Int) - 1) ∧ kv = .int .i64 K ∧ ov = .int .u64 O ∧ xv = .int .u64 X ∧ (X + blk p K O = blk a b o ∧ X % 2 ^ p = 0) ∧ Below w.heap.size w wr) (fun _ _ _ i _ _ => (intOf i + 1).toNat)
  case atStart => exact ⟨a, b, o, 0, Nat.le_refl _, by omega, ho, by go_num, rfl, rfl, rfl, ⟨by omega, by simp⟩, hb⟩
  case round =>
   obtain ⟨p, K, O, X, hp, hK, hO, rfl, rfl, rfl, rfl, ⟨hX, hM⟩, hwr⟩ := hrel
   have bX : X < 4611686018427387904 := by
    have := blk_lt a b o
    have : 2 ^ a ≤ 2 ^ 62 := Nat.pow_le_pow_right (by decide) ha
    omega
   by_cases hp0 : p = 0
   ·subst hp0
    have HX : Hid (X = blk a b o) := hX
    clear hX hM
    go_wp2
    go_ret2
    rw [← HX.out]
    exact ⟨rfl, hwr⟩
   obtain ⟨q, rfl⟩ : ∃ q, p = q + 1 := ⟨p - 1, by omega⟩
   have e1 : ((q + 1 : Nat) : Int) - 1 = (q : Int) := by omega
   rw [e1]
   have q64 : (q : Int) < 64 := by omega
   by_cases hK0 : K = 0
   ·subst hK0
    have HX : Hid (X = blk a b o) := by rw [blk_zero] at hX; exact hX
    clear hX hM
    go_wp2
    go_ret2
    rw [← HX.out]
    exact ⟨rfl, hwr⟩
   have hK1 : (0 : Int) < (K : Int) := by omega
   have D : Hid (∀ w0, Calls Tryz.prog 62 #[.int .i64 q, .int .i64 K] w0 fun e w' => e = .returned (.int .u64 (ch q K)) ∧ Below w0.heap.size w0 w') := fun w0 => by
    have := rchoose_c q K w0
    rw [chN_in q K (by omega)] at this
    exact this
   by_cases hge : ch q K ≤ O
   ·have HX : Hid (X + 2 ^ q + blk q (K - 1) (O - ch q K) = blk a b o) := by rw [blk_hi q K O hK0 hge] at hX; show _ = _; omega
    have HM : Hid ((X + 2 ^ q) % 2 ^ q = 0) := mod_plus X q hM
    have HR : Hid (bits .or .u64 (X : Int) (IntKind.u64.wrap (2 ^ q)) = ((X + 2 ^ q : Nat) : Int)) := by
     show bits .or .u64 (X : Int) (IntKind.u64.wrap (2 ^ q)) = ((X + 2 ^ q : Nat) : Int)
     rw [shl_one q (by omega), u64_or_nat _ _ (by omega) (two_pow_lt q (by omega)), or_high X q hM]
    have hge2 : ((ch q K : Nat) : Int) ≤ (O : Int) := by omega
    clear hX hM
    obtain ⟨Z2, hZ2⟩ : ∃ Z2, Hid (Z2 = ch q K) := ⟨_, rfl⟩
    rw [← hZ2.out] at D hge hge2 HX
    go_wp2_with fail
    refine (D.out _).mono ?_
    rintro e w2 ⟨rfl, hb2⟩
    have hw2 := hwr.trans (hb2.mono hwr.size)
    clear D hb2 hwr
    go_wp2
    exact ⟨⟨q, K - 1, O - Z2, X + 2 ^ q, by omega, by omega, by omega, by go_num, by go_num, by go_num, congrArg (Value.int .u64) HR.out, ⟨HX.out, HM.out⟩, hw2⟩, by simp only [intOf]; omega⟩
   ·have HX : Hid (X + blk q K O = blk a b o) := by rw [blk_lo q K O hK0 hge] at hX; exact hX
    have HM : Hid (X % 2 ^ q = 0) := mod_down X q hM
    have hge2 : ¬ ((ch q K : Nat) : Int) ≤ (O : Int) := by omega
    clear hX hM
    obtain ⟨Z2, hZ2⟩ : ∃ Z2, Hid (Z2 = ch q K) := ⟨_, rfl⟩
    rw [← hZ2.out] at D hge hge2
    go_wp2_with fail
    refine (D.out _).mono ?_
    rintro e w2 ⟨rfl, hb2⟩
    have hw2 := hwr.trans (hb2.mono hwr.size)
    clear D hb2 hwr
    go_wp2
    exact ⟨⟨q, K, O, X, by omega, hK, hO, by go_num, rfl, rfl, rfl, ⟨HX.out, HM.out⟩, hw2⟩, by simp only [intOf]; omega⟩
end Ow
end Go.Proofs.YtcaalcjcpddhaaaGreat
namespace Go.Proofs.YtcaalcjcpddhaaaGreat
open Go.RowKit Num Bit Bn
def asI (v : Nat) : Int := IntKind.i64.wrap (v : Int)
theorem asI_ch (v : Nat) (h : v < 18446744073709551616) : chN 15 (asI v) = chN 15 v := by
 unfold asI
 by_cases c : v < 9223372036854775808
 ·have e : IntKind.i64.wrap (v : Int) = (v : Int) := by rw [IntKind.wrap_i64]; omega
  rw [e]
 ·have e : IntKind.i64.wrap (v : Int) = (v : Int) - 18446744073709551616 := by rw [IntKind.wrap_i64]; omega
  rw [e]
  unfold chN
  rw [if_pos (by omega), if_pos (by omega)]
theorem asI_wd (v : Nat) (h : v < 18446744073709551616) : wdN 15 (asI v) = wdN 15 v := by unfold wdN; rw [asI_ch v h]
theorem asI_bkB (v o : Nat) (h : v < 18446744073709551616) : bkB 15 (asI v) o = bkB 15 v o := by unfold bkB; rw [asI_ch v h]
theorem asI_bkX (v o : Nat) (h : v < 18446744073709551616) : bkX 15 (asI v) o = bkX 15 v o := by
 unfold bkX
 rw [asI_ch v h]
 by_cases c : chN 15 v ≤ o
 ·rw [if_pos c, if_pos c]
 ·rw [if_neg c, if_neg c]
  have hv : v ≤ 15 := by
   refine Nat.le_of_not_lt fun hc => c ?_
   unfold chN
   rw [if_pos (by omega)]
   omega
  have : asI v = (v : Int) := by unfold asI; rw [IntKind.wrap_i64]; omega
  rw [this]
theorem bits_take (b t : Nat) : Bit.bits b (t + 1) = Bit.bits b t ++ [b.testBit t] := by
 unfold Bit.bits
 rw [List.range_succ, List.map_append]
 rfl
theorem bvl_app (l m : List Bool) : bvl l ++ bvl m = bvl (l ++ m) := by simp [bvl]
theorem bvl_one (l : List Bool) (b : Bool) : bvl l ++ [.bool b] = bvl (l ++ [b]) := by simp [bvl]
theorem bl_own {w : World} {base n c : Nat} {ao : Option Addr} {l : List Bool} (h : w.ownsRow base 4 1 (.slice ao n c) n (bvl l)) : Bl w ao l := by
 intro h0
 have hlen : (bvl l).length = n * 1 := h.1
 have hl : l.length = n := by simp [bvl] at hlen; omega
 have hk := fun k hk => h.lt k hk
 have hc := fun g hg => h.cells (g := g) hg
 obtain ⟨_, ⟨e, e2⟩ | ⟨g, cap, cur, e, _⟩⟩ := h
 ·omega
 ·simp only [Value.slice.injEq] at e
  obtain ⟨rfl, _, rfl⟩ := e
  refine ⟨g, 0, rfl, (hk g rfl).2, fun i hi => ?_⟩
  have hu : (bvl l)[i]? = some (.bool (bt l i)) := by
   unfold bvl bt
   rw [List.getElem?_map, List.getD_eq_getElem?_getD, List.getElem?_eq_getElem hi]
   rfl
  rw [← hc g rfl i _ hu]
  unfold Addr.add
  split
  ·subst_vars; rfl
  ·simp
theorem length_decG (N : Nat) (M : Int) (ys : List Nat) : ∀ l a out r, out.length ≤ N → decG N M ys l a out = some r → r.length ≤ N := by
 intro l
 induction l with
 | nil => intro a out r h e; simp only [decG, Option.some.injEq] at e; subst e; exact h
 | cons k l ih =>
  intro a out r h e
  rw [decG] at e
  split at e
  ·refine ih _ _ r ?_ e
   unfold addB
   rw [List.length_append, length_bits]
   omega
  ·cases e
theorem Wd.cellAt {w : World} {ao : Option Addr} {l : List Nat} (h : Wd w ao l) (q : Nat) (hq : q < l.length) : ∃ b off, ao = some ⟨b, off, none⟩ ∧ w.cell? ⟨b, off + q, none⟩ = some (.int .u64 (gt l q)) := by
 obtain ⟨b, off, e, _, hc⟩ := h (by omega)
 exact ⟨b, off, e, hc q hq⟩
end Go.Proofs.YtcaalcjcpddhaaaGreat
namespace Go.Proofs.YtcaalcjcpddhaaaGreat
open Num Bit Bn
theorem numAt_mk (l : List Nat) (W : Nat) (hW : 1 ≤ W) (hl : ∀ i, gt l i < 2 ^ W) (i : Nat) (hi : i < l.length) : numAt W (mkS l W l.length) i = gt l i := by
 unfold numAt
 refine (eq_numOf W (gt l i) _ fun k => ?_).symm
 by_cases c : k < W
 ·unfold mkS
  have e1 : (i * W + k) / W = i := by
   rw [Nat.mul_comm, Nat.mul_add_div (by omega), Nat.div_eq_of_lt c]; omega
  have e2 : (i * W + k) % W = k := by rw [Nat.mul_comm, Nat.mul_add_mod, Nat.mod_eq_of_lt c]
  have e3 : i * W + k < l.length * W := by
   have := mul_next l.length W i hi
   omega
  rw [bitAt_rowOf, e1, e2]
  simp [c, e3]
 ·have : gt l i < 2 ^ k := Nat.lt_of_lt_of_le (hl i) (Nat.pow_le_pow_right (by decide) (by omega))
  rw [Nat.testBit_lt_two_pow this]
  simp [c]
theorem ichk_mk (l : List Nat) (W : Nat) (hW : 1 ≤ W) (hW2 : W ≤ 64) (hl : l.length * W ≤ 1048576) : ichk (l.length : Int) (W : Int) ((l.length * W : Nat) : Int) (mkS l W l.length) = true := by
 unfold ichk
 rw [Bool.and_eq_true, decide_eq_true_eq]
 refine ⟨⟨by omega, by omega, by omega, by rw [Int.natCast_mul]⟩, ?_⟩
 exact chk_rowOf _ _ hl
theorem gt_bclP (m : Nat) (f : Nat → Bool) (n i : Nat) (h : i < n) : gt (bclP m f n) i = bcl m f i := by
 unfold bclP gt
 rw [List.getD_eq_getElem?_getD, List.getElem?_map, List.getElem?_range h]
 rfl
theorem bclP_lt (m : Nat) (f : Nat → Bool) (n i : Nat) : gt (bclP m f n) i < 2 ^ 4 := by
 by_cases c : i < n
 ·rw [gt_bclP m f n i c]
  have := bcl_le m f i
  omega
 ·rw [gt_out _ _ (by rw [length_bclP]; omega)]
  decide
theorem nb_le (m : Nat) (hm : m ≤ 1048576) : nb m ≤ 69906 := by unfold nb; omega
theorem list_mk (m : Nat) (f : Nat → Bool) : (List.range (nb m)).map (numAt 4 (mkS (bclP m f (nb m)) 4 (nb m))) = bclP m f (nb m) := by
 unfold bclP
 refine List.map_congr_left fun i hi => ?_
 have hi := List.mem_range.1 hi
 have := numAt_mk (bclP m f (nb m)) 4 (by decide) (bclP_lt m f (nb m)) i (by rw [length_bclP]; exact hi)
 rw [length_bclP, gt_bclP m f _ i hi] at this
 unfold bclP at this
 exact this
theorem fr_off (m : Nat) (f : Nat → Bool) : frL (bofP m f (nb m)) = rowOf (bat m f (nb m)) fun j => (bofP m f (nb m)).getD j false := by
 unfold frL
 rw [length_bofP]
 rfl
theorem fr_row (m : Nat) (f : Nat → Bool) : frL ((List.range m).map f) = rowOf m f := by
 unfold frL
 rw [List.length_map, List.length_range]
 refine rowOf_congr m _ _ fun i hi => ?_
 unfold bt
 rw [List.getD_eq_getElem?_getD, List.getElem?_map, List.getElem?_range hi]
 rfl
theorem dec_built (m : Nat) (f : Nat → Bool) (hm : m ≤ 1048576) :
  decG m (bat m f (nb m)) (frL (bofP m f (nb m))) ((List.range (nb m)).map (numAt 4 (mkS (bclP m f (nb m)) 4 (nb m)))) 0 [] = some ((List.range m).map f) := by
 rw [list_mk, fr_off]
 have h := dec_enc m f (bat m f (nb m)) _ (reads_row m f hm) (nb m) 0 (by omega)
 rw [show min (15 * 0) m = 0 by omega] at h
 rw [← List.range_eq_range'] at h
 exact h
end Go.Proofs.YtcaalcjcpddhaaaGreat
namespace Go.Proofs.YtcaalcjcpddhaaaGreat
open Go.RowKit Num Bit Bn
theorem info3_8 : (Tryz.prog.info? 3).map (fun i => (i.zero, i.size, i.bytes)) = some (some (.int .i64 0), 1, 8) := by kernel_rfl
def iv8 (l : List Int) : List Value := l.map fun n : Int => Value.int .i64 n
def onL (m : Nat) (f : Nat → Bool) (G : Nat) : List Int := (List.range G).map fun j => (bon m f (8 * j) : Int)
def ptL (m : Nat) (f : Nat → Bool) (G : Nat) : List Int := (List.range G).map fun j => (bat m f (8 * j) : Int)
theorem onL_succ (m : Nat) (f : Nat → Bool) (G : Nat) : iv8 (onL m f G) ++ [.int .i64 (bon m f (8 * G))] = iv8 (onL m f (G + 1)) := by
 unfold onL iv8
 rw [List.range_succ, List.map_append, List.map_append]
 rfl
theorem ptL_succ (m : Nat) (f : Nat → Bool) (G : Nat) : iv8 (ptL m f G) ++ [.int .i64 (bat m f (8 * G))] = iv8 (ptL m f (G + 1)) := by
 unfold ptL iv8
 rw [List.range_succ, List.map_append, List.map_append]
 rfl
theorem bclP_succ (m : Nat) (f : Nat → Bool) (p : Nat) : wv (bclP m f p) ++ [.int .u64 (bcl m f p)] = wv (bclP m f (p + 1)) := by
 unfold bclP wv
 rw [List.range_succ, List.map_append, List.map_append]
 rfl
theorem bofP_succ (m : Nat) (f : Nat → Bool) (p : Nat) : bvl (bofP m f p) ++ bvl (Bit.bits (bof m f p) (bwd m f p)) = bvl (bofP m f (p + 1)) := by
 rw [bvl_app, bofP]
structure R8 (w wr : World) (m n cap : Nat) (ao : Option Addr) (g : Nat) (ov pv : Value) : Prop where
 b1 : Cel wr w.heap.size [.int .i64 m, .slice ao n cap] 24
 b2 : Cel wr (w.heap.size + 1) [.int .i64 0, .int .i64 0, .int .i64 0, .int .i64 0, .slice none 0 0, .int .i64 0, .slice none 0 0, .slice none 0 0, .slice none 0 0] 32
 bx : Cel wr g [.int .i64 m, .int .i64 0, .int .i64 0, .int .i64 0, .slice none 0 0, .int .i64 0, .slice none 0 0, ov, pv] 32
 hg : w.heap.size + 1 < g
 hw : Below w.heap.size w wr
theorem R8.keep {w wr w' : World} {m n cap : Nat} {ao : Option Addr} {g : Nat} {ov pv : Value} (h : R8 w wr m n cap ao g ov pv) {base : Nat} (hb : Below base wr w') (hg : g < base) : R8 w w' m n cap ao g ov pv :=
 have := h.hg
 ⟨h.b1.keep hb (by omega), h.b2.keep hb (by omega), h.bx.keep hb hg, h.hg, h.hw.trans (hb.mono (by omega))⟩
theorem R8.ones {w wr : World} {m n cap : Nat} {ao : Option Addr} {g : Nat} {ov pv : Value} (h : R8 w wr m n cap ao g ov pv) (v : Value) : R8 w (wr.setCell ⟨g, 7, none⟩ v) m n cap ao g v pv :=
 have := h.hg
 ⟨h.b1.other (by show w.heap.size ≠ g; omega) v, h.b2.other (by show w.heap.size + 1 ≠ g; omega) v, h.bx.set 7 v, h.hg, h.hw.setCell (by show w.heap.size ≤ g; omega) _⟩
theorem R8.pts {w wr : World} {m n cap : Nat} {ao : Option Addr} {g : Nat} {ov pv : Value} (h : R8 w wr m n cap ao g ov pv) (v : Value) : R8 w (wr.setCell ⟨g, 8, none⟩ v) m n cap ao g ov v :=
 have := h.hg
 ⟨h.b1.other (by show w.heap.size ≠ g; omega) v, h.b2.other (by show w.heap.size + 1 ≠ g; omega) v, h.bx.set 8 v, h.hg, h.hw.setCell (by show w.heap.size ≤ g; omega) _⟩
structure RW (wr : World) (b : Nat) (cv fv ov pv : Value) (p1 p2 G1 G2 m : Nat) (f : Nat → Bool) : Prop where
 c : wr.ownsRow b 83 1 cv p1 (wv (bclP m f p1))
 o : wr.ownsRow b 4 1 fv (bat m f p2) (bvl (bofP m f p2))
 n : wr.ownsRow b 3 1 ov G1 (iv8 (onL m f G1))
 t : wr.ownsRow b 3 1 pv G2 (iv8 (ptL m f G2))
 co : Ap.Apart cv fv
 cn : Ap.Apart cv ov
 ct : Ap.Apart cv pv
 on : Ap.Apart fv ov
 ot : Ap.Apart fv pv
 nt : Ap.Apart ov pv
theorem RW.keep {wr w2 : World} {b : Nat} {cv fv ov pv : Value} {p1 p2 G1 G2 m : Nat} {f : Nat → Bool} (h : RW wr b cv fv ov pv p1 p2 G1 G2 m f) (hb : Below wr.heap.size wr w2) : RW w2 b cv fv ov pv p1 p2 G1 G2 m f :=
 ⟨Ap.owns_below h.c hb, Ap.owns_below h.o hb, Ap.owns_below h.n hb, Ap.owns_below h.t hb, h.co, h.cn, h.ct, h.on, h.ot, h.nt⟩
theorem owns_set8 {w : World} {base e n : Nat} {v u : Value} {vs : List Value} {a : Addr} (h : w.ownsRow base e 1 v n vs) (ha : a.block < base) : (w.setCell a u).ownsRow base e 1 v n vs := by
 obtain ⟨h1, h2 | ⟨g, cap, cur, e1, e2, hh, r⟩⟩ := h
 ·exact ⟨h1, .inl h2⟩
 ·exact ⟨h1, .inr ⟨g, cap, cur, e1, e2, (Below.heap_setCell w a u g (by omega)).trans hh, r⟩⟩
theorem RW.set {wr : World} {b : Nat} {cv fv ov pv : Value} {p1 p2 G1 G2 m : Nat} {f : Nat → Bool} (h : RW wr b cv fv ov pv p1 p2 G1 G2 m f) {a : Addr} (ha : a.block < b) (u : Value) : RW (wr.setCell a u) b cv fv ov pv p1 p2 G1 G2 m f :=
 ⟨owns_set8 h.c ha, owns_set8 h.o ha, owns_set8 h.n ha, owns_set8 h.t ha, h.co, h.cn, h.ct, h.on, h.ot, h.nt⟩
theorem RW.c' {wr w2 : World} {b : Nat} {cv fv ov pv : Value} {p1 p2 G1 G2 m : Nat} {f : Nat → Bool} (h : RW wr b cv fv ov pv p1 p2 G1 G2 m f) {u : Value} (ho : w2.ownsRow b 83 1 u (p1 + 1) (wv (bclP m f (p1 + 1)))) (hblk : ∀ k, u.ownBlock = some k → (cv.ownBlock = some k ∨ k = wr.heap.size) ∧ k < w2.heap.size) (hkeep : ∀ k, k < wr.heap.size → cv.ownBlock ≠ some k → w2.heap[k]? = wr.heap[k]?) : RW w2 b u fv ov pv (p1 + 1) (p2) (G1) (G2) m f :=
 ⟨ho, (Ap.owns_other h.o hkeep h.co.symm), (Ap.owns_other h.n hkeep h.cn.symm), (Ap.owns_other h.t hkeep h.ct.symm), (Ap.apart_new h.o hblk h.co.symm).symm, (Ap.apart_new h.n hblk h.cn.symm).symm, (Ap.apart_new h.t hblk h.ct.symm).symm, h.on, h.ot, h.nt⟩
theorem RW.o' {wr w2 : World} {b : Nat} {cv fv ov pv : Value} {p1 p2 G1 G2 m : Nat} {f : Nat → Bool} (h : RW wr b cv fv ov pv p1 p2 G1 G2 m f) {u : Value} (ho : w2.ownsRow b 4 1 u (bat m f (p2 + 1)) (bvl (bofP m f (p2 + 1)))) (hblk : ∀ k, u.ownBlock = some k → (fv.ownBlock = some k ∨ k = wr.heap.size) ∧ k < w2.heap.size) (hkeep : ∀ k, k < wr.heap.size → fv.ownBlock ≠ some k → w2.heap[k]? = wr.heap[k]?) : RW w2 b cv u ov pv (p1) (p2 + 1) (G1) (G2) m f :=
 ⟨(Ap.owns_other h.c hkeep h.co), ho, (Ap.owns_other h.n hkeep h.on.symm), (Ap.owns_other h.t hkeep h.ot.symm), (Ap.apart_new h.c hblk h.co), h.cn, h.ct, (Ap.apart_new h.n hblk h.on.symm).symm, (Ap.apart_new h.t hblk h.ot.symm).symm, h.nt⟩
theorem RW.n' {wr w2 : World} {b : Nat} {cv fv ov pv : Value} {p1 p2 G1 G2 m : Nat} {f : Nat → Bool} (h : RW wr b cv fv ov pv p1 p2 G1 G2 m f) {u : Value} (ho : w2.ownsRow b 3 1 u (G1 + 1) (iv8 (onL m f (G1 + 1)))) (hblk : ∀ k, u.ownBlock = some k → (ov.ownBlock = some k ∨ k = wr.heap.size) ∧ k < w2.heap.size) (hkeep : ∀ k, k < wr.heap.size → ov.ownBlock ≠ some k → w2.heap[k]? = wr.heap[k]?) : RW w2 b cv fv u pv (p1) (p2) (G1 + 1) (G2) m f :=
 ⟨(Ap.owns_other h.c hkeep h.cn), (Ap.owns_other h.o hkeep h.on), ho, (Ap.owns_other h.t hkeep h.nt.symm), h.co, (Ap.apart_new h.c hblk h.cn), h.ct, (Ap.apart_new h.o hblk h.on), h.ot, (Ap.apart_new h.t hblk h.nt.symm).symm⟩
theorem RW.t' {wr w2 : World} {b : Nat} {cv fv ov pv : Value} {p1 p2 G1 G2 m : Nat} {f : Nat → Bool} (h : RW wr b cv fv ov pv p1 p2 G1 G2 m f) {u : Value} (ho : w2.ownsRow b 3 1 u (G2 + 1) (iv8 (ptL m f (G2 + 1)))) (hblk : ∀ k, u.ownBlock = some k → (pv.ownBlock = some k ∨ k = wr.heap.size) ∧ k < w2.heap.size) (hkeep : ∀ k, k < wr.heap.size → pv.ownBlock ≠ some k → w2.heap[k]? = wr.heap[k]?) : RW w2 b cv fv ov u (p1) (p2) (G1) (G2 + 1) m f :=
 ⟨(Ap.owns_other h.c hkeep h.ct), (Ap.owns_other h.o hkeep h.ot), (Ap.owns_other h.n hkeep h.nt), ho, h.co, h.cn, (Ap.apart_new h.c hblk h.ct), h.on, (Ap.apart_new h.o hblk h.ot), (Ap.apart_new h.n hblk h.nt)⟩
end Go.Proofs.YtcaalcjcpddhaaaGreat
