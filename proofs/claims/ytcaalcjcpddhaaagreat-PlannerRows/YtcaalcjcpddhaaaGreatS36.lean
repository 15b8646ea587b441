/-
  Plain arithmetic of rows of bits in blocks of fifteen: each block's class and offset, the offsets one behind the other, and the way back. Nothing of the program is in here. The contracts of the document's block and low, and of the law that two rows of numbers are one. The contracts of the document's Same of rows of numbers, and of rows in blocks. A row of words of the call's own. The contract of the document's Choose.
-/
import Derived.Test.YtcaalcjcpddhaaaGreatS35
set_option linter.unusedVariables false
set_option linter.unusedSimpArgs false
set_option maxRecDepth 100000
namespace Go.Proofs.YtcaalcjcpddhaaaGreat
open Num Bn
namespace Bit
def nb (N : Nat) : Nat := (N + 14) / 15
def blv (N : Nat) (f : Nat → Bool) (i : Nat) : Nat := numOf 15 fun k => decide (15 * i + k < N) && f (15 * i + k)
def bcl (N : Nat) (f : Nat → Bool) (i : Nat) : Nat := cnt (blv N f i) 15
def bof (N : Nat) (f : Nat → Bool) (i : Nat) : Nat := off (blv N f i) 15
def kwd (k : Nat) : Nat := Go.bitLen (ch 15 k - 1)
def bwd (N : Nat) (f : Nat → Bool) (i : Nat) : Nat := kwd (bcl N f i)
def bat (N : Nat) (f : Nat → Bool) : Nat → Nat
 | 0 => 0
 | i + 1 => bat N f i + bwd N f i
def bon (N : Nat) (f : Nat → Bool) : Nat → Nat
 | 0 => 0
 | i + 1 => bon N f i + bcl N f i
def bits (x n : Nat) : List Bool := (List.range n).map x.testBit
def bofP (N : Nat) (f : Nat → Bool) : Nat → List Bool
 | 0 => []
 | i + 1 => bofP N f i ++ bits (bof N f i) (bwd N f i)
def bclP (N : Nat) (f : Nat → Bool) (i : Nat) : List Nat := (List.range i).map (bcl N f)
theorem length_bits (x n : Nat) : (bits x n).length = n := by simp [bits]
theorem length_bofP (N : Nat) (f : Nat → Bool) (i : Nat) : (bofP N f i).length = bat N f i := by
 induction i with
 | zero => rfl
 | succ i ih => rw [bofP, List.length_append, ih, length_bits, bat]
theorem length_bclP (N : Nat) (f : Nat → Bool) (i : Nat) : (bclP N f i).length = i := by simp [bclP]
theorem bcl_le (N : Nat) (f : Nat → Bool) (i : Nat) : bcl N f i ≤ 15 := cnt_le _ _
theorem kwd_le (k : Nat) : kwd k ≤ 15 := len_le _ 15 (by
 have := ch_le 15 k
 have p : (2 : Nat) ^ 15 = 32768 := by decide
 omega)
theorem bwd_le (N : Nat) (f : Nat → Bool) (i : Nat) : bwd N f i ≤ 15 := kwd_le _
theorem kwd_le13 (k : Nat) (h : k ≤ 15) : kwd k ≤ 13 := by
 match k, h with
 | 0, _ | 1, _ | 2, _ | 3, _ | 4, _ | 5, _ | 6, _ | 7, _ | 8, _ | 9, _ | 10, _ | 11, _ | 12, _ | 13, _ | 14, _ | 15, _ => decide +kernel
theorem bat_le (N : Nat) (f : Nat → Bool) (i : Nat) : bat N f i ≤ 13 * i := by
 induction i with
 | zero => exact Nat.le_refl _
 | succ i ih => have := kwd_le13 (bcl N f i) (bcl_le N f i); rw [bat, bwd]; omega
theorem bon_le (N : Nat) (f : Nat → Bool) (i : Nat) : bon N f i ≤ 15 * i := by
 induction i with
 | zero => exact Nat.le_refl _
 | succ i ih => have := bcl_le N f i; rw [bon]; omega
theorem bof_lt (N : Nat) (f : Nat → Bool) (i : Nat) : bof N f i < ch 15 (bcl N f i) := off_lt _ _
theorem bof_fit (N : Nat) (f : Nat → Bool) (i : Nat) : bof N f i < 2 ^ bwd N f i := by
 have h := bof_lt N f i
 have c := ch62 15 (bcl N f i) (by decide)
 have := lt_len (ch 15 (bcl N f i) - 1) (by omega)
 unfold bwd kwd
 omega
theorem num_bits (x n : Nat) (h : x < 2 ^ n) : numOf n x.testBit = x := by
 refine (eq_numOf n x _ fun k => ?_).symm
 by_cases c : k < n
 ·simp [c]
 ·have : x < 2 ^ k := Nat.lt_of_lt_of_le h (Nat.pow_le_pow_right (by decide) (by omega))
  rw [Nat.testBit_lt_two_pow this]
  simp [c]
theorem bofP_get (N : Nat) (f : Nat → Bool) : ∀ n i t, i < n → t < bwd N f i → (bofP N f n)[bat N f i + t]? = some ((bof N f i).testBit t) := by
 intro n
 induction n with
 | zero => intro i t h; omega
 | succ n ih =>
  intro i t hi ht
  rw [bofP]
  by_cases c : i < n
  ·have := ih i t c ht
   have hl := (List.getElem?_eq_some_iff.1 this).1
   rw [List.getElem?_append_left hl, this]
  ·obtain rfl : i = n := by omega
   rw [List.getElem?_append_right (by rw [length_bofP]; omega), length_bofP, Nat.add_sub_cancel_left]
   unfold bits
   rw [List.getElem?_map, List.getElem?_range ht]
   rfl
def addB (N : Nat) (out : List Bool) (b : Nat) : List Bool := out ++ bits b (min 15 (N - out.length))
def decG (N : Nat) (M : Int) (ys : List Nat) : List Nat → Nat → List Bool → Option (List Bool)
 | [], _, out => some out
 | k :: l, at_, out =>
  if slcE M ys at_ (wdN 15 k) = 0 ∧ bkB 15 k (slcX M ys at_ (wdN 15 k)) = true then decG N M ys l (at_ + wdN 15 k) (addB N out (bkX 15 k (slcX M ys at_ (wdN 15 k)))) else none
theorem wdN_k (k : Nat) (h : k ≤ 15) : wdN 15 k = kwd k := by
 unfold wdN kwd
 have e : chN (15 : Int) (k : Int) = ch 15 k := chN_in 15 k (by decide)
 have := ch_pos 15 k h
 rw [e, if_neg (by omega)]
theorem blv_lt (N : Nat) (f : Nat → Bool) (i : Nat) : blv N f i < 2 ^ 15 := numOf_lt _ _
theorem bk_back (N : Nat) (f : Nat → Bool) (i : Nat) : bkB 15 (bcl N f i) (bof N f i) = true ∧ bkX 15 (bcl N f i) (bof N f i) = blv N f i := by
 have e : chN (15 : Int) (bcl N f i : Int) = ch 15 (bcl N f i) := chN_in 15 _ (by decide)
 have h := bof_lt N f i
 unfold bkB bkX
 rw [e, if_neg (by omega)]
 refine ⟨by simpa using h, ?_⟩
 have := blk_off (blv N f i) 15
 rw [show ((15 : Int).toNat) = 15 from rfl, Int.toNat_natCast]
 unfold bcl bof
 rw [this, Nat.mod_eq_of_lt (blv_lt N f i)]
theorem addB_step (N : Nat) (f : Nat → Bool) (i : Nat) : addB N ((List.range (min (15 * i) N)).map f) (blv N f i) = (List.range (min (15 * (i + 1)) N)).map f := by
 unfold addB
 have e : min (15 * (i + 1)) N = min (15 * i) N + min 15 (N - min (15 * i) N) := by omega
 rw [e, List.range_add, List.map_append, List.length_map, List.length_range]
 congr 1
 unfold bits
 rw [List.map_map]
 refine List.map_congr_left fun t ht => ?_
 have ht := List.mem_range.1 ht
 simp only [Function.comp]
 unfold blv
 rw [testBit_numOf]
 have a1 : t < 15 := by omega
 have a2 : min (15 * i) N = 15 * i := by omega
 have a3 : 15 * i + t < N := by omega
 rw [a2]
 simp [a1, a3]
def Reads (N : Nat) (f : Nat → Bool) (M : Int) (ys : List Nat) : Prop := ∀ i, i < nb N → slcE M ys (bat N f i) (wdN 15 (bcl N f i)) = 0 ∧ slcX M ys (bat N f i) (wdN 15 (bcl N f i)) = bof N f i
theorem dec_enc (N : Nat) (f : Nat → Bool) (M : Int) (ys : List Nat) (h : Reads N f M ys) : ∀ d i, i + d = nb N → decG N M ys ((List.range' i d).map (bcl N f)) (bat N f i) ((List.range (min (15 * i) N)).map f) = some ((List.range N).map f) := by
 intro d
 induction d with
 | zero =>
  intro i hi
  have : min (15 * i) N = N := by unfold nb at hi; omega
  rw [this]
  rfl
 | succ d ih =>
  intro i hi
  obtain ⟨h1, h2⟩ := h i (by omega)
  obtain ⟨b1, b2⟩ := bk_back N f i
  rw [List.range'_succ, List.map_cons, decG, h2, if_pos ⟨h1, b1⟩, b2, addB_step]
  have e : bat N f i + wdN 15 (bcl N f i) = bat N f (i + 1) := by rw [wdN_k _ (bcl_le N f i)]; rfl
  rw [e]
  exact ih (i + 1) (by omega)
theorem reads_row (N : Nat) (f : Nat → Bool) (hN : N ≤ 1048576) : Reads N f (bat N f (nb N)) (rowOf (bat N f (nb N)) fun j => (bofP N f (nb N)).getD j false) := by
 intro i hi
 have hb := bat_le N f (nb N)
 have hb2 : bat N f (nb N) ≤ 1048576 := by unfold nb at hb ⊢; omega
 have hw := bwd_le N f i
 have mono : ∀ d j, bat N f j ≤ bat N f (j + d) := by
  intro d
  induction d with
  | zero => intro j; exact Nat.le_refl _
  | succ d ih => intro j; have := ih j; rw [show j + (d + 1) = j + d + 1 by omega, bat]; omega
 have hm : bat N f (i + 1) ≤ bat N f (nb N) := by
  have := mono (nb N - (i + 1)) (i + 1)
  rw [show i + 1 + (nb N - (i + 1)) = nb N by omega] at this
  exact this
 rw [bat] at hm
 have ck := chk_rowOf (bat N f (nb N)) (fun j => (bofP N f (nb N)).getD j false) hb2
 rw [wdN_k _ (bcl_le N f i), show kwd (bcl N f i) = bwd N f i from rfl]
 have e0 : slcE (bat N f (nb N)) (rowOf (bat N f (nb N)) fun j => (bofP N f (nb N)).getD j false) (bat N f i) (bwd N f i) = 0 := by
  unfold slcE
  rw [if_neg (by rw [ck]; simp; omega), if_neg (by omega)]
 refine ⟨e0, ?_⟩
 unfold slcX
 rw [if_pos e0, Int.toNat_natCast, Int.toNat_natCast, ← num_bits (bof N f i) (bwd N f i) (bof_fit N f i)]
 rw [num_bits (bof N f i) (bwd N f i) (bof_fit N f i)]
 refine (eq_numOf _ _ _ fun k => ?_).symm
 by_cases c : k < bwd N f i
 ·rw [bitAt_rowOf, List.getD_eq_getElem?_getD, bofP_get N f (nb N) i k hi c]
  simp [c, show bat N f i + k < bat N f (nb N) by omega]
 ·have : bof N f i < 2 ^ k := Nat.lt_of_lt_of_le (bof_fit N f i) (Nat.pow_le_pow_right (by decide) (by omega))
  rw [Nat.testBit_lt_two_pow this]
  simp [c]
end Bit
end Go.Proofs.YtcaalcjcpddhaaaGreat
namespace Go.Proofs.YtcaalcjcpddhaaaGreat
open Go.RowKit Num Bit
theorem numOf_more (f : Nat → Bool) (q : Nat) : ∀ d, (∀ k, q ≤ k → f k = false) → numOf (q + d) f = numOf q f := by
 intro d
 induction d with
 | zero => intro _; rfl
 | succ d ih =>
  intro h
  rw [show q + (d + 1) = q + d + 1 by omega, numOf, ih h, h (q + d) (by omega)]
  simp
def bkf (N : Nat) (xs : List Nat) (at_ : Nat) (k : Nat) : Bool := decide (at_ + k < N) && bitAt xs (at_ + k)
theorem or_step (f : Nat → Bool) (q : Nat) : numOf q f ||| 2 ^ q = numOf q f + 2 ^ q := by
 have := Nat.two_pow_add_eq_or_of_lt (numOf_lt q f) 1
 rw [Nat.mul_one] at this
 rw [Nat.or_comm, ← this, Nat.add_comm]
set_option maxHeartbeats 2000000 in
theorem r8block_c (m : Nat) (ao : Option Addr) (xs : List Nat) (cap : Nat) (p : Nat) (w : World) (hx : Wd w ao xs) (hk : chk (m : Int) xs = true) (hp : p ≤ m) :
  Calls Tryz.prog 33 #[.agg #[.int .i64 m, .slice ao xs.length cap], .int .i64 p] w fun e w' => e = .returned (.int .u64 (numOf 15 (bkf m xs p))) ∧ Below w.heap.size w w' := by
 obtain ⟨h0, h1, h2, -⟩ := chk_out (m : Int) xs hk
 have HL : Hid (∀ j, j < m → j / 64 < xs.length) := fun j hj => by omega
 clear h2
 have m20 : m ≤ 1048576 := by omega
 go_enter Tryz.func33, Tryz.ntmps33
 go_wp2
 go_loopw [5, 6] (fun xv i wr => ∃ q X : Nat, q ≤ 15 ∧ i = .int .i64 q ∧ xv = .int .u64 X ∧ Hid (X = numOf q (bkf m xs p)) ∧ Cel wr w.heap.size [.int .i64 m, .slice ao xs.length cap] 24 ∧ Below w.heap.size w wr) (fun _ i _ => 15 - (intOf i).toNat)
 case atStart => exact ⟨0, 0, by omega, rfl, rfl, rfl, Cel.new w _ _, below_alloc w _⟩
 case round =>
  obtain ⟨q, X, hq, rfl, rfl, HX, hC, hwr⟩ := hrel
  have r0 := hC.cell 0 rfl
  have r1 := hC.cell 1 rfl
  have bX : X < 32768 := by
   rw [HX.out]
   have h := numOf_lt q (bkf m xs p)
   have : 2 ^ q ≤ 2 ^ 15 := Nat.pow_le_pow_right (by decide) hq
   omega
  by_cases hlt : q < 15
  ·by_cases hin : p + q < m
   ·have hin2 : (p : Int) + (q : Int) < (m : Int) := by omega
    have q64 : (q : Int) < 64 := by omega
    have C2 : Hid (∀ w0, Below w.heap.size w w0 → Calls Tryz.prog 22 #[.agg #[.int .i64 m, .slice ao xs.length cap], .int .i64 ((p : Int) + (q : Int))] w0 fun e w' => e = .returned (.bool (bitAt xs (p + q))) ∧ Below w0.heap.size w0 w') := fun w0 h => at_c m ao xs cap (p + q) w0 (hx.keep h) (HL.out _ hin) (by omega)
    go_wp2_with fail
    refine (C2.out _ hwr).mono ?_
    rintro e w2 ⟨rfl, hb2⟩
    have hw2 := hwr.trans (hb2.mono hwr.size)
    have hC2 := hC.kept hb2
    clear hb2 r0 r1 C2
    cases hbit : bitAt xs (p + q) with
    | true =>
     have HR : Hid (bits .or .u64 (X : Int) (IntKind.u64.wrap (2 ^ q)) = ((X + 2 ^ q : Nat) : Int) ∧ X + 2 ^ q = numOf (q + 1) (bkf m xs p)) := by
      show _ ∧ _
      refine ⟨?_, ?_⟩
      ·rw [Bit.shl_one q (by omega), u64_or_nat _ _ (by omega) (two_pow_lt q (by omega)), HX.out, or_step]
      ·rw [numOf, ← HX.out]
       unfold bkf
       simp [hin, hbit]
     go_wp2
     exact ⟨⟨q + 1, X + 2 ^ q, by omega, by go_num, congrArg (Value.int .u64) HR.out.1, HR.out.2, hC2, hw2⟩, by simp only [intOf]; omega⟩
    | false =>
     have HR : Hid (X = numOf (q + 1) (bkf m xs p)) := by
      show X = _
      rw [numOf, ← HX.out]
      unfold bkf
      simp [hbit]
     go_wp2
     exact ⟨⟨q + 1, X, by omega, by go_num, rfl, HR, hC2, hw2⟩, by simp only [intOf]; omega⟩
   ·have hin2 : ¬ (p : Int) + (q : Int) < (m : Int) := by omega
    have HR : Hid (numOf 15 (bkf m xs p) = X) := by
     show numOf 15 (bkf m xs p) = X
     rw [HX.out, show (15 : Nat) = q + (15 - q) by omega, numOf_more _ q _ (fun k hk => by unfold bkf; rw [decide_eq_false (by omega)]; rfl)]
    go_wp2
    go_ret
    rw [HR.out]
    exact ⟨rfl, hwr⟩
  ·obtain rfl : q = 15 := by omega
   go_wp2
   go_ret
   rw [← HX.out]
   exact ⟨rfl, hwr⟩
theorem Tryz.info4 : (Tryz.prog.info? 4).map (fun i => (i.zero, i.size, i.bytes)) = some (some (.bool false), 1, 1) := by kernel_rfl
def bvl (l : List Bool) : List Value := l.map fun b => Value.bool b
theorem bvl_snoc (x q : Nat) : bvl (Bit.bits x q) ++ [.bool (x.testBit q)] = bvl (Bit.bits x (q + 1)) := by
 unfold bvl Bit.bits
 rw [List.range_succ, List.map_append, List.map_append]
 rfl
theorem test_end (x q : Nat) : (((x : Int) / 2 ^ q).tmod 2 == 1) = x.testBit q := by
 rw [bit_test, shr_cast]
 have : ((x / 2 ^ q : Nat) : Int).tmod 2 = ((x / 2 ^ q % 2 : Nat) : Int) := by generalize x / 2 ^ q = z; rw [Int.tmod_eq_emod_of_nonneg (by omega)]; omega
 rw [this, Bool.eq_iff_iff, beq_iff_eq, decide_eq_true_eq]
 omega
set_option maxHeartbeats 2000000 in
theorem low8_c (x n : Nat) (hx64 : x < 18446744073709551616) (hn : n ≤ 64) (w : World) :
    Calls Tryz.prog 34 #[.int .u64 x, .int .i64 n] w fun e w' => ∃ v, e = .returned v ∧ w'.ownsRow w.heap.size 4 1 v n (bvl (Bit.bits x n)) ∧ Below w.heap.size w w' := by
  obtain ⟨i0, hi, hz0, hz1, hz2⟩ := info_parts Tryz.info4
  have x0 : (0 : Int) ≤ (x : Int) := by omega
  go_enter Tryz.func34, Tryz.ntmps34
  go_wp2
  go_loopw [5, 6] (fun v i wr => ∃ q : Nat, q ≤ n ∧ i = .int .i64 q ∧ wr.ownsRow w.heap.size 4 1 v q (bvl (Bit.bits x q)) ∧ Below w.heap.size w wr) (fun _ i _ => n - (intOf i).toNat)
  case atStart => exact ⟨0, Nat.zero_le _, rfl, World.ownsRow_nil _ _ _ _, Below.refl _ _⟩
  case round =>
    obtain ⟨q, hq, rfl, hown, hwr⟩ := hrel
    by_cases hlt : q < n
    · have hlt2 : (q : Int) < (n : Int) := by omega
      have q64 : (q : Int) < 64 := by omega
      have T : Hid ((((x : Int) / 2 ^ q).tmod 2 == 1) = x.testBit q) := test_end x q
      have hsz := hwr.size
      go_wp2_with (at_builtin; rw [T.out]; refine wpList_append_own _ rfl _ _ 82 rfl w.heap.size 4 i0 (.bool false) 1 1 Tryz.underlying82 hi hz0 hz1 hz2 rfl (by decide) _ _ _ rfl (hown.alloc _) ⟨wr.heap.size, 0, none⟩ 1 1 [.bool (x.testBit q)] rfl rfl ?c1 ?c2 ?c3 ?c4 ?c5 ?_)
      case c1 =>
        intro j u hj
        match j, hj with
        | 0, hj => simp at hj; subst hj; simp [Addr.add]
      case c2 => intro u hu; simp at hu; subst hu; rfl
      case c3 => unfold maxLen; omega
      case c4 => omega
      case c5 => simp; omega
      intro v' w3 hown3 hgrow _
      have hrow : ∀ k, u5.ownBlock = some k → w.heap.size ≤ k := fun k hk => (hown.lt k hk).1
      have hb3 : Below w.heap.size (wr.alloc (.cells #[.bool (x.testBit q)] 4)) w3 := (Below.refl _ _).grown hgrow (by simp; omega) hrow
      have hb4 : Below w.heap.size wr w3 := Below.trans ((Below.refl _ _).alloc (by omega) _) hb3
      have hw3 := hwr.trans hb4
      rw [bvl_snoc] at hown3
      have HO : Hid (w3.ownsRow w.heap.size 4 1 v' (q + 1) (bvl (Bit.bits x (q + 1)))) := hown3
      clear hgrow hown hb3 hb4 hown3 hrow hi hz0 hz1 hz2
      go_wp2
      first
        | exact ⟨⟨q + 1, by omega, by go_num, HO.out, hw3⟩, by simp only [intOf]; omega⟩
        | (go_roundw
           case rel => exact ⟨q + 1, by omega, by go_num, HO.out, hw3⟩
           case measure => simp only [intOf]; omega)
    · have hqm : q = n := by omega
      have HO : Hid (wr.ownsRow w.heap.size 4 1 u5 n (bvl (Bit.bits x n))) := by
        rw [hqm] at hown
        exact hown
      clear hqm hown
      go_wp2
      go_ret
      exact ⟨u5, rfl, HO.out, hwr⟩
end Go.Proofs.YtcaalcjcpddhaaaGreat
namespace Go.Proofs.YtcaalcjcpddhaaaGreat
open Go.RowKit Num Bit
set_option maxHeartbeats 4000000 in
theorem isame_c8 (aN aW aM : Int) (ao : Option Addr) (ax : List Nat) (ac : Nat) (bN bW bM : Int) (bo : Option Addr) (bx : List Nat) (bc : Nat) (w : World) (hx : Wd w ao ax) (hy : Wd w bo bx) (hl : ax.length ≤ 1048576) :
  Calls Tryz.prog 106 #[.agg #[.int .i64 aN, .int .i64 aW, .int .i64 aM, .slice ao ax.length ac], .agg #[.int .i64 bN, .int .i64 bW, .int .i64 bM, .slice bo bx.length bc]] w fun e w' => e = .returned (.bool (decide (aN = bN) && (decide (aW = bW) && (decide (aM = bM) && decide (ax = bx))))) ∧ Below w.heap.size w w' := by
 obtain ⟨W, hW⟩ : ∃ W, W = (w.alloc (.cells #[.int .i64 aN, .int .i64 aW, .int .i64 aM, .slice ao ax.length ac] 30)).alloc (.cells #[.int .i64 bN, .int .i64 bW, .int .i64 bM, .slice bo bx.length bc] 30) := ⟨_, rfl⟩
 have bZ : Below w.heap.size w W := by rw [hW]; exact (below_alloc w _).alloc (by simp) _
 have B1 : Cel W w.heap.size [.int .i64 aN, .int .i64 aW, .int .i64 aM, .slice ao ax.length ac] 30 := by rw [hW]; exact (Cel.new w _ _).alloc _
 have B2 : Cel W (w.heap.size + 1) [.int .i64 bN, .int .i64 bW, .int .i64 bM, .slice bo bx.length bc] 30 := by rw [hW]; exact Cel.new2 w _ _ _
 have C1 : Hid (∀ w0, w0 = W → Calls Tryz.prog 94 #[.agg #[.int .i64 aM, .slice ao ax.length ac], .agg #[.int .i64 bM, .slice bo bx.length bc]] w0 fun e w' => e = .returned (.bool (decide (aM = bM) && decide (ax = bx))) ∧ Below w0.heap.size w0 w') := fun w0 h => by subst h; exact same_c aM ao ax ac bM bo bx bc w0 (hx.keep bZ) (hy.keep bZ) hl
 generalize (decide (aM = bM) && decide (ax = bx)) = z at *
 by_cases h1 : aN = bN
 ·by_cases h2 : aW = bW
  ·rw [decide_eq_true h1, decide_eq_true h2]
   subst h1 h2
   go_enter Tryz.func106, Tryz.ntmps106
   go_wp2_with fail
   rw [← hW]
   refine (C1.out _ rfl).mono ?_
   rintro e w1 ⟨rfl, hb⟩
   have bw := bZ.trans (hb.mono bZ.size)
   go_wp2
   go_ret
   exact ⟨by cases z <;> rfl, bw⟩
  ·rw [decide_eq_true h1, decide_eq_false h2]
   have e2 : (aW == bW) = false := by simpa using h2
   subst h1
   have bw : Below w.heap.size w ((w.alloc (.cells #[.int .i64 aN, .int .i64 aW, .int .i64 aM, .slice ao ax.length ac] 30)).alloc (.cells #[.int .i64 aN, .int .i64 bW, .int .i64 bM, .slice bo bx.length bc] 30)) := (below_alloc w _).alloc (by simp) _
   clear C1 B1 B2 bZ hW W
   go_enter Tryz.func106, Tryz.ntmps106
   go_wp2
   go_ret
   exact ⟨rfl, bw⟩
 ·rw [decide_eq_false h1]
  have e1 : (aN == bN) = false := by simpa using h1
  have bw : Below w.heap.size w ((w.alloc (.cells #[.int .i64 aN, .int .i64 aW, .int .i64 aM, .slice ao ax.length ac] 30)).alloc (.cells #[.int .i64 bN, .int .i64 bW, .int .i64 bM, .slice bo bx.length bc] 30)) := (below_alloc w _).alloc (by simp) _
  clear C1 B1 B2 bZ hW W
  go_enter Tryz.func106, Tryz.ntmps106
  go_wp2
  go_ret
  exact ⟨rfl, bw⟩
set_option maxHeartbeats 8000000 in
theorem r8same_c (aN ak aW aM : Int) (ao : Option Addr) (ax : List Nat) (ac : Nat) (aL : Int) (aq : Option Addr) (ay : List Nat) (ad : Nat) (as_ : Option Addr) (au : List Int) (ae : Nat) (at_ : Option Addr) (av : List Int) (af : Nat) (bN bk bW bM : Int) (bo : Option Addr) (bx : List Nat) (bc : Nat) (bL : Int) (bq : Option Addr) (b_y : List Nat) (bd : Nat) (bs : Option Addr) (bu : List Int) (be : Nat) (bt : Option Addr) (bv_ : List Int) (bf : Nat) (w : World) (hx : Wd w ao ax) (hy : Wd w bo bx) (hl : ax.length ≤ 1048576) (kx : Wd w aq ay) (ky : Wd w bq b_y) (kl : ay.length ≤ 1048576) (s1 : Nd w as_ au) (s2 : Nd w bs bu) (sl : au.length ≤ 1048576) (t1 : Nd w at_ av) (t2 : Nd w bt bv_) (tl : av.length ≤ 1048576) :
  Calls Tryz.prog 91 #[.agg #[.int .i64 aN, .int .i64 ak, .int .i64 aW, .int .i64 aM, .slice ao ax.length ac, .int .i64 aL, .slice aq ay.length ad, .slice as_ au.length ae, .slice at_ av.length af], .agg #[.int .i64 bN, .int .i64 bk, .int .i64 bW, .int .i64 bM, .slice bo bx.length bc, .int .i64 bL, .slice bq b_y.length bd, .slice bs bu.length be, .slice bt bv_.length bf]] w fun e w' => e = .returned (.bool (decide (aN = bN) && ((decide (ak = bk) && (decide (aW = bW) && (decide (aM = bM) && decide (ax = bx)))) && ((decide (aL = bL) && decide (ay = b_y)) && (decide (au = bu) && decide (av = bv_)))))) ∧ Below w.heap.size w w' := by
 obtain ⟨W, hW⟩ : ∃ W, W = (w.alloc (.cells #[.int .i64 aN, .int .i64 ak, .int .i64 aW, .int .i64 aM, .slice ao ax.length ac, .int .i64 aL, .slice aq ay.length ad, .slice as_ au.length ae, .slice at_ av.length af] 32)).alloc (.cells #[.int .i64 bN, .int .i64 bk, .int .i64 bW, .int .i64 bM, .slice bo bx.length bc, .int .i64 bL, .slice bq b_y.length bd, .slice bs bu.length be, .slice bt bv_.length bf] 32) := ⟨_, rfl⟩
 have bZ : Below w.heap.size w W := by rw [hW]; exact (below_alloc w _).alloc (by simp) _
 have B1 : Cel W w.heap.size [.int .i64 aN, .int .i64 ak, .int .i64 aW, .int .i64 aM, .slice ao ax.length ac, .int .i64 aL, .slice aq ay.length ad, .slice as_ au.length ae, .slice at_ av.length af] 32 := by rw [hW]; exact (Cel.new w _ _).alloc _
 have B2 : Cel W (w.heap.size + 1) [.int .i64 bN, .int .i64 bk, .int .i64 bW, .int .i64 bM, .slice bo bx.length bc, .int .i64 bL, .slice bq b_y.length bd, .slice bs bu.length be, .slice bt bv_.length bf] 32 := by rw [hW]; exact Cel.new2 w _ _ _
 have C1 : Hid (∀ w0, w0 = W → Calls Tryz.prog 106 #[.agg #[.int .i64 ak, .int .i64 aW, .int .i64 aM, .slice ao ax.length ac], .agg #[.int .i64 bk, .int .i64 bW, .int .i64 bM, .slice bo bx.length bc]] w0 fun e w' => e = .returned (.bool (decide (ak = bk) && (decide (aW = bW) && (decide (aM = bM) && decide (ax = bx))))) ∧ Below w0.heap.size w0 w') := fun w0 h => by subst h; exact isame_c8 ak aW aM ao ax ac bk bW bM bo bx bc w0 (hx.keep bZ) (hy.keep bZ) hl
 have C2 : Hid (∀ w0, Below w.heap.size w w0 → Calls Tryz.prog 94 #[.agg #[.int .i64 aL, .slice aq ay.length ad], .agg #[.int .i64 bL, .slice bq b_y.length bd]] w0 fun e w' => e = .returned (.bool (decide (aL = bL) && decide (ay = b_y))) ∧ Below w0.heap.size w0 w') := fun w0 h => same_c aL aq ay ad bL bq b_y bd w0 (kx.keep h) (ky.keep h) kl
 have C3 : Hid (∀ w0, Below w.heap.size w w0 → Calls Tryz.prog 95 #[.slice as_ au.length ae, .slice bs bu.length be] w0 fun e w' => e = .returned (.bool (decide (au = bu))) ∧ Below w0.heap.size w0 w') := fun w0 h => rnum_c as_ au ae bs bu be w0 (s1.keep h) (s2.keep h) sl
 have C4 : Hid (∀ w0, Below w.heap.size w w0 → Calls Tryz.prog 95 #[.slice at_ av.length af, .slice bt bv_.length bf] w0 fun e w' => e = .returned (.bool (decide (av = bv_))) ∧ Below w0.heap.size w0 w') := fun w0 h => rnum_c at_ av af bt bv_ bf w0 (t1.keep h) (t2.keep h) tl
 generalize (decide (ak = bk) && (decide (aW = bW) && (decide (aM = bM) && decide (ax = bx)))) = z1 at *
 generalize (decide (aL = bL) && decide (ay = b_y)) = z2 at *
 generalize decide (au = bu) = z3 at *
 generalize decide (av = bv_) = z4 at *
 by_cases h1 : aN = bN
 ·rw [decide_eq_true h1]
  subst h1
  go_enter Tryz.func91, Tryz.ntmps91
  go_wp2_with fail
  rw [← hW]
  refine (C1.out _ rfl).mono ?_
  rintro e w1 ⟨rfl, hb⟩
  have bw1 := bZ.trans (hb.mono bZ.size)
  replace B1 := B1.kept hb
  replace B2 := B2.kept hb
  clear hb
  cases z1 with
  | false =>
   go_wp2
   go_ret
   exact ⟨rfl, bw1⟩
  | true =>
   have c0 := B1.cell 0 rfl
   have d0 := B2.cell 0 rfl
   have c1 := B1.cell 1 rfl
   have d1 := B2.cell 1 rfl
   have c2 := B1.cell 2 rfl
   have d2 := B2.cell 2 rfl
   have c3 := B1.cell 3 rfl
   have d3 := B2.cell 3 rfl
   have c4 := B1.cell 4 rfl
   have d4 := B2.cell 4 rfl
   have c5 := B1.cell 5 rfl
   have d5 := B2.cell 5 rfl
   have c6 := B1.cell 6 rfl
   have d6 := B2.cell 6 rfl
   have c7 := B1.cell 7 rfl
   have d7 := B2.cell 7 rfl
   have c8 := B1.cell 8 rfl
   have d8 := B2.cell 8 rfl
   go_wp2_with fail
   refine (C2.out _ bw1).mono ?_
   rintro e w2 ⟨rfl, hb⟩
   have bw2 := bw1.trans (hb.mono bw1.size)
   replace B1 := B1.kept hb
   replace B2 := B2.kept hb
   clear hb c0 d0 c1 d1 c2 d2 c3 d3 c4 d4 c5 d5 c6 d6 c7 d7 c8 d8
   cases z2 with
   | false =>
    go_wp2
    go_ret
    exact ⟨rfl, bw2⟩
   | true =>
    have c0 := B1.cell 0 rfl
    have d0 := B2.cell 0 rfl
    have c1 := B1.cell 1 rfl
    have d1 := B2.cell 1 rfl
    have c2 := B1.cell 2 rfl
    have d2 := B2.cell 2 rfl
    have c3 := B1.cell 3 rfl
    have d3 := B2.cell 3 rfl
    have c4 := B1.cell 4 rfl
    have d4 := B2.cell 4 rfl
    have c5 := B1.cell 5 rfl
    have d5 := B2.cell 5 rfl
    have c6 := B1.cell 6 rfl
    have d6 := B2.cell 6 rfl
    have c7 := B1.cell 7 rfl
    have d7 := B2.cell 7 rfl
    have c8 := B1.cell 8 rfl
    have d8 := B2.cell 8 rfl
    go_wp2_with fail
    refine (C3.out _ bw2).mono ?_
    rintro e w3 ⟨rfl, hb⟩
    have bw3 := bw2.trans (hb.mono bw2.size)
    replace B1 := B1.kept hb
    replace B2 := B2.kept hb
    clear hb c0 d0 c1 d1 c2 d2 c3 d3 c4 d4 c5 d5 c6 d6 c7 d7 c8 d8
    cases z3 with
    | false =>
     go_wp2
     go_ret
     exact ⟨rfl, bw3⟩
    | true =>
     have c0 := B1.cell 0 rfl
     have d0 := B2.cell 0 rfl
     have c1 := B1.cell 1 rfl
     have d1 := B2.cell 1 rfl
     have c2 := B1.cell 2 rfl
     have d2 := B2.cell 2 rfl
     have c3 := B1.cell 3 rfl
     have d3 := B2.cell 3 rfl
     have c4 := B1.cell 4 rfl
     have d4 := B2.cell 4 rfl
     have c5 := B1.cell 5 rfl
     have d5 := B2.cell 5 rfl
     have c6 := B1.cell 6 rfl
     have d6 := B2.cell 6 rfl
     have c7 := B1.cell 7 rfl
     have d7 := B2.cell 7 rfl
     have c8 := B1.cell 8 rfl
     have d8 := B2.cell 8 rfl
     go_wp2_with fail
     refine (C4.out _ bw3).mono ?_
     rintro e w4 ⟨rfl, hb⟩
     have bw4 := bw3.trans (hb.mono bw3.size)
     go_wp2
     go_ret
     exact ⟨by cases z4 <;> rfl, bw4⟩
 ·rw [decide_eq_false h1]
  have e1 : (aN == bN) = false := by simpa using h1
  have bw : Below w.heap.size w ((w.alloc (.cells #[.int .i64 aN, .int .i64 ak, .int .i64 aW, .int .i64 aM, .slice ao ax.length ac, .int .i64 aL, .slice aq ay.length ad, .slice as_ au.length ae, .slice at_ av.length af] 32)).alloc (.cells #[.int .i64 bN, .int .i64 bk, .int .i64 bW, .int .i64 bM, .slice bo bx.length bc, .int .i64 bL, .slice bq b_y.length bd, .slice bs bu.length be, .slice bt bv_.length bf] 32)) := (below_alloc w _).alloc (by simp) _
  clear C1 C2 C3 C4 B1 B2 bZ hW W
  go_enter Tryz.func91, Tryz.ntmps91
  go_wp2
  go_ret
  exact ⟨rfl, bw⟩
end Go.Proofs.YtcaalcjcpddhaaaGreat
namespace Go.Proofs.YtcaalcjcpddhaaaGreat
open Go.RowKit Num Bn
namespace Ow
theorem info64 : (Tryz.prog.info? 83).map (fun i => (i.zero, i.size, i.bytes)) = some (some (.int .u64 0), 1, 8) := by kernel_rfl
theorem below_alloc (w : World) (o : Obj) : Below w.heap.size w (w.alloc o) := (Below.refl _ _).alloc (Nat.le_refl _) _
def gt (xs : List Nat) (i : Nat) : Nat := xs.getD i 0
theorem gt_get (xs : List Nat) (i : Nat) (h : i < xs.length) : xs[i]? = some (gt xs i) := by
 unfold gt
 rw [List.getD_eq_getElem?_getD, List.getElem?_eq_getElem h]; rfl
theorem gt_map (f : Nat → Nat) (n i : Nat) (h : i < n) : gt ((List.range n).map f) i = f i := by
 unfold gt
 rw [List.getD_eq_getElem?_getD, List.getElem?_map, List.getElem?_range h]; rfl
theorem gt_set (ys : List Nat) (j i v : Nat) (hj : j < ys.length) : gt (ys.set j v) i = if j = i then v else gt ys i := by
 unfold gt
 rw [List.getD_eq_getElem?_getD, List.getD_eq_getElem?_getD, List.getElem?_set]
 by_cases c : j = i
 ·subst c; simp [hj]
 ·simp [c]
theorem list_ext {xs ys : List Nat} (hl : xs.length = ys.length) (h : ∀ i, i < xs.length → gt xs i = gt ys i) : xs = ys := by
 refine List.ext_getElem? fun i => ?_
 by_cases c : i < xs.length
 ·rw [gt_get xs i c, gt_get ys i (by omega), h i c]
 ·rw [List.getElem?_eq_none (by omega), List.getElem?_eq_none (by omega)]
def wv (ys : List Nat) : List Value := ys.map fun y : Nat => Value.int .u64 (y : Int)
def Own (w : World) (g : Nat) (ys : List Nat) : Prop := w.heap[g]? = some (.cells (wv ys).toArray 83 (0, 0))
theorem own_made {w : World} {base g n : Nat} (h : w.ownsRow base 83 1 (.slice (some ⟨g, 0, none⟩) n n) n (madeCells #[.int .u64 0] n).toList) : Own w g (List.replicate n 0) := by
 obtain ⟨_, h | ⟨g', cap, cur, e, _, hh, _, _, hs, ht⟩⟩ := h
 ·simp at h
 ·simp only [Value.slice.injEq, Option.some.injEq, Addr.mk.injEq] at e
  obtain ⟨⟨rfl, _, _⟩, _, rfl⟩ := e
  unfold Own
  rw [hh]
  have e2 : (madeCells #[.int .u64 0] n).toList = wv (List.replicate n 0) := by
   rw [toList_madeCells_one (.int .u64 0) n, wv, List.map_replicate]
   rfl
  rw [e2] at ht
  have e3 : cur.toList.take (n * 1) = cur.toList := List.take_of_length_le (by simp; omega)
  rw [e3] at ht
  rw [← ht]
theorem Own.cell {w : World} {g : Nat} {ys : List Nat} (h : Own w g ys) (j : Nat) (hj : j < ys.length) : w.cell? ⟨g, j, none⟩ = some (.int .u64 (gt ys j)) := by
 unfold World.cell?
 rw [show w.heap[({ block := g, off := j, spot := none } : Addr).block]? = _ from h]
 simp only [List.getElem?_toArray, wv, List.getElem?_map, gt_get ys j hj]
 rfl
theorem Own.frozen {w : World} {g : Nat} {ys : List Nat} (h : Own w g ys) (j : Nat) : w.frozen? ⟨g, j, none⟩ = false := by
 unfold World.frozen?
 rw [show w.heap[({ block := g, off := j, spot := none } : Addr).block]? = _ from h]
 simp
theorem Own.lt {w : World} {g : Nat} {ys : List Nat} (h : Own w g ys) : g < w.heap.size := (Array.getElem?_eq_some_iff.1 h).1
theorem Own.set {w : World} {g : Nat} {ys : List Nat} (h : Own w g ys) (j v : Nat) : Own (w.setCell ⟨g, j, none⟩ (.int .u64 v)) g (ys.set j v) := by
 unfold Own at h ⊢
 simp only [World.setCell, Array.getElem?_modify]
 rw [if_pos trivial, h]
 simp [wv, List.map_set]
def rowP (n i : Nat) : List Nat := (List.range (n + 1)).map (ch i)
def pas (n i j : Nat) : List Nat := (List.range (n + 1)).map fun t => if j < t then ch i t else ch (i - 1) t
theorem length_pas (n i j : Nat) : (pas n i j).length = n + 1 := by simp [pas]
theorem length_rowP (n i : Nat) : (rowP n i).length = n + 1 := by simp [rowP]
theorem pas_first (n i : Nat) : pas n i i = rowP n (i - 1) := by
 unfold pas rowP
 refine List.map_congr_left fun t _ => ?_
 by_cases c : i < t
 ·rw [if_pos c, ch_out i t c, ch_out (i - 1) t (by omega)]
 ·rw [if_neg c]
theorem pas_last (n i : Nat) : pas n i 0 = rowP n i := by
 unfold pas rowP
 refine List.map_congr_left fun t _ => ?_
 by_cases c : 0 < t
 ·rw [if_pos c]
 ·obtain rfl : t = 0 := by omega
  rw [if_neg c, ch_zero, ch_zero]
theorem gt_pas (n i j t : Nat) (h : t ≤ n) : gt (pas n i j) t = if j < t then ch i t else ch (i - 1) t := gt_map _ _ _ (by omega)
theorem gt_rowP (n i t : Nat) (h : t ≤ n) : gt (rowP n i) t = ch i t := gt_map _ _ _ (by omega)
theorem pas_step (n i j : Nat) (hi : 1 ≤ i) (hj : 1 ≤ j) (hn : j ≤ n) : (pas n i j).set j (ch (i - 1) j + ch (i - 1) (j - 1)) = pas n i (j - 1) := by
 refine list_ext (by rw [List.length_set, length_pas, length_pas]) fun t ht => ?_
 rw [List.length_set, length_pas] at ht
 rw [gt_set _ _ _ _ (by rw [length_pas]; omega), gt_pas _ _ _ _ (by omega), gt_pas _ _ _ _ (by omega)]
 by_cases c : j = t
 ·subst c
  obtain ⟨a, rfl⟩ : ∃ a, i = a + 1 := ⟨i - 1, by omega⟩
  obtain ⟨b, rfl⟩ : ∃ b, j = b + 1 := ⟨j - 1, by omega⟩
  rw [if_pos rfl, if_pos (by omega), ch_succ, Nat.add_sub_cancel, Nat.add_sub_cancel]
  omega
 ·rw [if_neg c]
  by_cases d : j < t
  ·rw [if_pos d, if_pos (by omega)]
  ·rw [if_neg d, if_neg (by omega)]
theorem row_start (n : Nat) : (List.replicate (n + 1) 0).set 0 1 = rowP n 0 := by
 refine list_ext (by rw [List.length_set, length_rowP, List.length_replicate]) fun t ht => ?_
 rw [List.length_set, List.length_replicate] at ht
 rw [gt_set _ _ _ _ (by simp), gt_rowP _ _ _ (by omega)]
 by_cases c : 0 = t
 ·subst c; rw [if_pos rfl, ch_zero]
 ·rw [if_neg c, ch_out 0 t (by omega)]
  unfold gt
  rw [List.getD_eq_getElem?_getD, List.getElem?_replicate]
  split <;> rfl
end Ow
end Go.Proofs.YtcaalcjcpddhaaaGreat
namespace Go.Proofs.YtcaalcjcpddhaaaGreat
open Go.RowKit Num Bn
namespace Ow
theorem rchoose_out (n k : Int) (h : n < 0 ∨ 62 < n ∨ k < 0 ∨ n < k) (w : World) :
  Calls Tryz.prog 62 #[.int .i64 n, .int .i64 k] w fun e w' => e = .returned (.int .u64 0) ∧ Below w.heap.size w w' := by
 by_cases h1 : n < 0
 ·go_enter Tryz.func62, Tryz.ntmps62
  go_wp2
  go_ret
  exact ⟨rfl, Below.refl _ _⟩
 by_cases h2 : 62 < n
 ·go_enter Tryz.func62, Tryz.ntmps62
  go_wp2
  go_ret
  exact ⟨rfl, Below.refl _ _⟩
 by_cases h3 : k < 0
 ·go_enter Tryz.func62, Tryz.ntmps62
  go_wp2
  go_ret
  exact ⟨rfl, Below.refl _ _⟩
 ·have h4 : n < k := by omega
  clear h
  go_enter Tryz.func62, Tryz.ntmps62
  go_wp2
  go_ret
  exact ⟨rfl, Below.refl _ _⟩
set_option maxHeartbeats 2000000 in
theorem rchoose_in (n k : Nat) (hn : n ≤ 62) (hk : k ≤ n) (w : World) :
  Calls Tryz.prog 62 #[.int .i64 n, .int .i64 k] w fun e w' => e = .returned (.int .u64 (ch n k)) ∧ Below w.heap.size w w' := by
 obtain ⟨i0, hi, hz0, hz1, hz2⟩ := info_parts info64
 have hn2 : (n : Int) ≤ 62 := by omega
 have hk2 : (k : Int) ≤ n := by omega
 go_enter Tryz.func62, Tryz.ntmps62
 go_wp2_with (at_make; refine wpList_make_full _ rfl _ _ 22 rfl w.heap.size 83 i0 (.int .u64 0) 1 Tryz.underlying22 hi hz0 hz1 .i64 .i64 _ _ (n + 1) rfl rfl rfl rfl ?b2 ?b3 ?b4 ?_)
 case b2 => rw [hz2]; omega
 case b3 => unfold maxLen; omega
 case b4 => omega
 intro w1 hown hgr
 have hO : Own w1 w.heap.size (List.replicate (n + 1) 0) := own_made hown
 have hb1 : Below w.heap.size w w1 := (Below.refl _ _).grown hgr (Nat.le_refl _) (fun k h => by cases h)
 clear hown hgr hi hz0 hz1 hz2
 have c0 := hO.cell 0 (by simp)
 have f0 := hO.frozen 0
 have hO2 := hO.set 0 1
 rw [row_start] at hO2
 have hb2 : Below w.heap.size w (w1.setCell ⟨w.heap.size, 0, none⟩ (.int .u64 ((1 : Nat) : Int))) := hb1.setCell (Nat.le_refl _) _
 have hl : (0 : Int) < (n : Int) + 1 := by omega
 go_wp2
 go_loopw [6, 7] (fun i j wr => ∃ p : Nat, 1 ≤ p ∧ p ≤ n + 1 ∧ i = .int .i64 p ∧ Own wr w.heap.size (rowP n (p - 1)) ∧ Below w.heap.size w wr) (fun i _ _ => n + 1 - (intOf i).toNat)
 case atStart => exact ⟨1, Nat.le_refl _, by omega, rfl, hO2, hb2⟩
 case round =>
  obtain ⟨p, hp1, hp2, rfl, hOr, hwr⟩ := hrel
  clear hO hO2 hb1 hb2 c0 f0
  by_cases hlt : p ≤ n
  ·have hlt2 : (p : Int) ≤ (n : Int) := by omega
   go_wp2
   go_loopw [7] (fun j wz => ∃ q : Nat, q ≤ p ∧ j = .int .i64 q ∧ Own wz w.heap.size (pas n p q) ∧ Below w.heap.size w wz) (fun j _ => (intOf j).toNat)
   case atStart => exact ⟨p, Nat.le_refl _, rfl, by rw [pas_first]; exact hOr, hwr⟩
   case round =>
    obtain ⟨q, hq, rfl, hOz, hwz⟩ := hrel
    clear hOr hwr
    by_cases h0 : q = 0
    ·subst h0
     rw [pas_last] at hOz
     have HO : Hid (Own wr w.heap.size (rowP n p)) := hOz
     clear hOz
     go_wp2
     exact ⟨⟨p + 1, by omega, by omega, by go_num, HO.out, hwz⟩, by simp only [intOf]; omega⟩
    ·have q0 : (0 : Int) < (q : Int) := by omega
     have e1 := hOz.cell q (by rw [length_pas]; omega)
     have e2 := hOz.cell (q - 1) (by rw [length_pas]; omega)
     have fz := hOz.frozen q
     have l1 : (q : Int) < (n : Int) + 1 := by omega
     have l2 : (q : Int) - 1 < (n : Int) + 1 := by omega
     rw [gt_pas _ _ _ _ (by omega), if_neg (by omega)] at e1 e2
     have b1 := ch62 (p - 1) q (by omega)
     have b2 := ch62 (p - 1) (q - 1) (by omega)
     have st := hOz.set q (ch (p - 1) q + ch (p - 1) (q - 1))
     rw [pas_step n p q hp1 (by omega) (by omega)] at st
     have HO : Hid (Own (wr.setCell ⟨w.heap.size, q, none⟩ (.int .u64 ((ch (p - 1) q + ch (p - 1) (q - 1) : Nat) : Int))).drew w.heap.size (pas n p (q - 1))) := st
     have HB : Hid (Below w.heap.size w (wr.setCell ⟨w.heap.size, q, none⟩ (.int .u64 ((ch (p - 1) q + ch (p - 1) (q - 1) : Nat) : Int))).drew) := (hwz.setCell (Nat.le_refl _) _).drew
     have ez : ((q : Int) - 1).toNat = q - 1 := by omega
     have ad : IntKind.u64.wrap ((ch (p - 1) q : Int) + (ch (p - 1) (q - 1) : Int)) = ((ch (p - 1) q + ch (p - 1) (q - 1) : Nat) : Int) := by rw [IntKind.wrap_u64]; omega
     clear st hOz
     generalize ch (p - 1) q = A at *
     generalize ch (p - 1) (q - 1) = B at *
     go_wp2
     go_region
     go_wp2
     exact ⟨⟨q - 1, by omega, by go_num, HO.out, HB.out⟩, by simp only [intOf]; omega⟩
  ·obtain rfl : p = n + 1 := by omega
   have e1 := hOr.cell k (by rw [length_rowP]; omega)
   rw [Nat.add_sub_cancel, gt_rowP _ _ _ hk] at e1
   have l1 : (k : Int) < (n : Int) + 1 := by omega
   obtain ⟨Z, hZ⟩ : ∃ Z, Hid (Z = ch n k) := ⟨_, rfl⟩
   rw [← hZ.out] at e1
   go_wp2
   go_ret
   rw [← hZ.out]
   exact ⟨rfl, hwr⟩
theorem rchoose_c (n k : Int) (w : World) :
  Calls Tryz.prog 62 #[.int .i64 n, .int .i64 k] w fun e w' => e = .returned (.int .u64 (chN n k)) ∧ Below w.heap.size w w' := by
 unfold chN
 by_cases h : n < 0 ∨ 62 < n ∨ k < 0 ∨ n < k
 ·rw [if_pos h]
  exact rchoose_out n k h w
 ·rw [if_neg h]
  obtain ⟨a, rfl⟩ := Int.eq_ofNat_of_zero_le (show 0 ≤ n by omega)
  obtain ⟨b, rfl⟩ := Int.eq_ofNat_of_zero_le (show 0 ≤ k by omega)
  exact rchoose_in a b (by omega) (by omega) w
end Ow
end Go.Proofs.YtcaalcjcpddhaaaGreat
