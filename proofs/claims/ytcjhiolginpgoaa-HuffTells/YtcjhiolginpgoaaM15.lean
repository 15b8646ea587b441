/-
  The contract of the program's Codes. The contract of the program's Cost. The bits of a word the other way round: the contracts of math/bits.Reverse64 and ReverseBytes64.
-/
import Derived.Test.YtcjhiolginpgoaaM14
namespace Go.Proofs.Ytcjhiolginpgoaa
open Go.RowKit Num Bit Ji Hp Ka Hr
set_option linter.unusedVariables false
set_option linter.unusedSimpArgs false
set_option maxRecDepth 100000

/-- n structs of two cells, one behind the other. -/
def bl2 (n : Nat) (a b : Nat → Value) : List Value := (List.range (n * 2)).map fun j => if j % 2 = 0 then a (j / 2) else b (j / 2)
theorem length_bl2 (n : Nat) (a b : Nat → Value) : (bl2 n a b).length = n * 2 := by simp [bl2]
theorem bl2_get (n : Nat) (a b : Nat → Value) (j : Nat) (h : j < n * 2) : (bl2 n a b)[j]? = some (if j % 2 = 0 then a (j / 2) else b (j / 2)) := by
  unfold bl2
  rw [List.getElem?_map, List.getElem?_range h]
  rfl
theorem bl2_fst (n : Nat) (a b : Nat → Value) (i : Nat) (h : i < n) : (bl2 n a b)[i * 2]? = some (a i) := by
  rw [bl2_get n a b (i * 2) (by omega), if_pos (by omega), show i * 2 / 2 = i by omega]
theorem bl2_snd (n : Nat) (a b : Nat → Value) (i : Nat) (h : i < n) : (bl2 n a b)[i * 2 + 1]? = some (b i) := by
  rw [bl2_get n a b (i * 2 + 1) (by omega), if_neg (by omega), show (i * 2 + 1) / 2 = i by omega]
theorem bl2_set (n : Nat) (a b a' b' : Nat → Value) (i : Nat) (h : i < n) (ha : ∀ j, j ≠ i → a' j = a j) (hb : ∀ j, j ≠ i → b' j = b j) : ((bl2 n a b).set (i * 2) (a' i)).set (i * 2 + 1) (b' i) = bl2 n a' b' := by
  refine List.ext_getElem? fun j => ?_
  by_cases c : j < n * 2
  · rw [bl2_get n a' b' j c, List.getElem?_set, List.getElem?_set]
    by_cases c1 : i * 2 + 1 = j
    · subst c1
      rw [if_pos rfl, List.length_set, length_bl2, if_pos c, if_neg (by omega), show (i * 2 + 1) / 2 = i by omega]
    · rw [if_neg c1]
      by_cases c2 : i * 2 = j
      · subst c2
        rw [if_pos rfl, length_bl2, if_pos c, if_pos (by omega), show i * 2 / 2 = i by omega]
      · rw [if_neg c2, bl2_get n a b j c, ha (j / 2) (by omega), hb (j / 2) (by omega)]
  · rw [List.getElem?_eq_none (by rw [List.length_set, List.length_set, length_bl2]; omega), List.getElem?_eq_none (by rw [length_bl2]; omega)]
theorem bl2_made (n : Nat) (x y : Value) : (madeCells #[x, y] (n * 2)).toList = bl2 n (fun _ => x) (fun _ => y) := by
  unfold madeCells bl2
  rw [Array.toList_map, Array.toList_range]
  refine List.map_congr_left fun j _ => ?_
  show #[x, y][j % 2]! = _
  rcases Nat.mod_two_eq_zero_or_one j with e | e
  · rw [e]; rfl
  · rw [e]; rfl
theorem cel_made {w : World} {base g n : Nat} {E : TypeId} {x y : Value} (h : w.ownsRow base E 2 (.slice (some ⟨g, 0, none⟩) n n) n (madeCells #[x, y] (n * 2)).toList) : Cel w g (bl2 n (fun _ => x) (fun _ => y)) E := by
  obtain ⟨_, h | ⟨g', cap, cur, e, _, hh, _, _, hs, ht⟩⟩ := h
  · simp at h
  · simp only [Value.slice.injEq, Option.some.injEq, Addr.mk.injEq] at e
    obtain ⟨⟨rfl, _, _⟩, _, rfl⟩ := e
    unfold Cel
    rw [hh, ← bl2_made n x y, ← ht]
    have e3 : cur.toList.take (n * 2) = cur.toList := List.take_of_length_le (by simp; omega)
    rw [e3]

/-- The bits of c's code. -/
def cod (v : Nat → Nat) (c : Nat) : Nat := if 0 < v c then code v 256 c else 0
/-- The codes of the first q symbols. -/
def cdP (v : Nat → Nat) (q : Nat) : List Value := bl2 256 (fun c => .int .i64 ((if c < q then v c else 0 : Nat) : Int)) (fun c => .int .u64 ((if c < q then cod v c else 0 : Nat) : Int))
/-- The codes. -/
def cds (v : Nat → Nat) : List Value := bl2 256 (fun c => .int .i64 (v c : Nat)) (fun c => .int .u64 (cod v c : Nat))
theorem cdP_zero (v : Nat → Nat) : cdP v 0 = bl2 256 (fun _ => .int .i64 0) (fun _ => .int .u64 0) := by unfold cdP; simp
theorem cdP_step (v : Nat → Nat) (q : Nat) (h : q < 256) : ((cdP v q).set (q * 2) (.int .i64 (v q : Nat))).set (q * 2 + 1) (.int .u64 (cod v q : Nat)) = cdP v (q + 1) := by
  have e := bl2_set 256 (fun c => .int .i64 ((if c < q then v c else 0 : Nat) : Int)) (fun c => .int .u64 ((if c < q then cod v c else 0 : Nat) : Int)) (fun c => .int .i64 ((if c < q + 1 then v c else 0 : Nat) : Int)) (fun c => .int .u64 ((if c < q + 1 then cod v c else 0 : Nat) : Int)) q h
    (fun j hj => by by_cases d : j < q <;> simp [d, show (j < q + 1 ↔ j < q) by omega]) (fun j hj => by by_cases d : j < q <;> simp [d, show (j < q + 1 ↔ j < q) by omega])
  rw [if_pos (show q < q + 1 by omega), if_pos (show q < q + 1 by omega)] at e
  exact e
theorem cdP_same (v : Nat → Nat) (q : Nat) (h : q < 256) (h0 : v q = 0) : cdP v q = cdP v (q + 1) := by
  rw [← cdP_step v q h]
  have c0 : cod v q = 0 := by unfold cod; rw [if_neg (by omega)]
  have e0 : (cdP v q)[q * 2]? = some (.int .i64 (v q : Nat)) := by
    unfold cdP
    rw [bl2_fst _ _ _ _ h, if_neg (by omega), h0]
  have e1 : (cdP v q)[q * 2 + 1]? = some (.int .u64 (cod v q : Nat)) := by
    unfold cdP
    rw [bl2_snd _ _ _ _ h, if_neg (by omega), c0]
  refine List.ext_getElem? fun j => ?_
  rw [List.getElem?_set, List.getElem?_set, List.length_set]
  have hlen : (cdP v q).length = 512 := length_bl2 _ _ _
  by_cases k1 : q * 2 + 1 = j
  · subst k1; rw [if_pos rfl, if_pos (by omega), e1]
  · rw [if_neg k1]
    by_cases k2 : q * 2 = j
    · subst k2; rw [if_pos rfl, if_pos (by omega), e0]
    · rw [if_neg k2]
theorem cdP_all (v : Nat → Nat) : cdP v 256 = cds v := by
  unfold cdP cds bl2
  refine List.map_congr_left fun j hj => ?_
  have := List.mem_range.1 hj
  have h2 : j / 2 < 256 := by omega
  simp only [h2, if_true]
/-- 256 new codes. -/
def CO (w : World) (v : Nat → Nat) (e : Ending) (w' : World) : Prop := ∃ g, e = .returned (.tuple #[.slice (some ⟨g, 0, none⟩) 256 256, .int .i64 0]) ∧ Cel w' g (cds v) 33 ∧ w.heap.size ≤ g ∧ Below w.heap.size w w'
theorem CO.mk {w : World} {v : Nat → Nat} {e : Ending} {w' : World} (g : Nat) (h1 : e = .returned (.tuple #[.slice (some ⟨g, 0, none⟩) 256 256, .int .i64 0])) (h2 : Cel w' g (cds v) 33) (h3 : w.heap.size ≤ g) (h4 : Below w.heap.size w w') : CO w v e w' := ⟨g, h1, h2, h3, h4⟩
/-- May lengths be? -/
def lok (l : List Int) : Bool := win l 40 && fitb (cntOf l)

set_option maxHeartbeats 2000000 in
theorem jcodes_bad (ao : Option Addr) (l : List Int) (cap : Nat) (w : World) (hx : Nd w ao l) (hl : l.length ≤ 1048576) (hw : lok l = false) :
    Calls Try.prog 10 #[.slice ao l.length cap] w fun e w' => e = .returned (.tuple #[.slice none 0 0, .int .i64 2]) ∧ Below w.heap.size w w' := by
  have C := hide (jwithin_c ao l cap 40 w hx hl)
  cases hk : win l 40 with
  | false =>
    rw [hk] at C
    clear hx hw hk
    go_enter Try.func10, Try.ntmps10
    go_wp2_with fail
    refine (C.out).mono ?_
    rintro e w1 ⟨rfl, hb⟩
    go_wp2
    go_ret2
    exact ⟨rfl, hb⟩
  | true =>
    rw [hk] at C
    obtain ⟨h256, hbd⟩ := win_len hk
    have hf : fitb (cntOf l) = false := by unfold lok at hw; rw [hk] at hw; simpa using hw
    have CF : Hid (∀ w0, Below w.heap.size w w0 → Calls Try.prog 23 #[.slice ao l.length cap] w0 fun e w' => e = .returned (.bool false) ∧ w' = w0) := fun w0 hb => by
      have := jfit_c ao l cap w0 (hx.keep hb) h256 hbd
      rw [hf] at this
      exact this
    clear hx hw hk h256 hbd hf
    go_enter Try.func10, Try.ntmps10
    go_wp2_with fail
    refine (C.out).mono ?_
    rintro e w1 ⟨rfl, hb⟩
    go_wp2_with fail
    refine (CF.out _ hb).mono ?_
    rintro e w2 ⟨rfl, rfl⟩
    go_wp2
    go_ret2
    exact ⟨rfl, hb⟩

set_option maxHeartbeats 4000000 in
theorem jcodes_c (ao : Option Addr) (l : List Int) (cap : Nat) (w : World) (hx : Nd w ao l) (hl : l.length ≤ 1048576) (hw : lok l = true) :
    Calls Try.prog 10 #[.slice ao l.length cap] w fun e w' => CO w (cntOf l) e w' := by
  obtain ⟨i0, hi, hz0, hz1, hz2⟩ := info_parts (show (Try.prog.info? 33).map (fun i => (i.zero, i.size, i.bytes)) = some (some (.agg #[.int .i64 0, .int .u64 0]), 2, 16) by kernel_rfl)
  have C := hide (jwithin_c ao l cap 40 w hx hl)
  obtain ⟨hk, hf⟩ : win l 40 = true ∧ fitb (cntOf l) = true := by unfold lok at hw; simpa using hw
  rw [hk] at C
  obtain ⟨h256, hbd⟩ := win_len hk
  have hs := fit_need hf
  have CF : Hid (∀ w0, Below w.heap.size w w0 → Calls Try.prog 23 #[.slice ao l.length cap] w0 fun e w' => e = .returned (.bool true) ∧ w' = w0) := fun w0 hb => by
    have := jfit_c ao l cap w0 (hx.keep hb) h256 hbd
    rw [hf] at this
    exact this
  obtain ⟨v, hv⟩ : ∃ v, Hid (v = cntOf l) := ⟨_, rfl⟩
  have CN : Hid (∀ w0, Below w.heap.size w w0 → Calls Try.prog 24 #[.slice ao l.length cap] w0 fun e w' => e = .returned (.agg (wvh (a41 (Ka.fst v))).toArray) ∧ Below w0.heap.size w0 w') := fun w0 hb => by
    have := jfirsts_c ao l cap w0 (hx.keep hb) h256 hbd hs
    rw [← hv.out] at this
    exact this
  rw [← hv.out] at hs ⊢
  obtain ⟨b, off, rfl, hbw, hcc⟩ := hx (by omega)
  have HC : Hid (∀ i, i < l.length → gi l i = (v i : Int) ∧ v i ≤ 40) := fun i hi => by
    have := hbd i hi
    rw [hv.out]
    unfold cntOf
    omega
  have HCC : Hid (∀ i, i < l.length → w.cell? ⟨b, off + i, none⟩ = some (.int .i64 (v i : Nat))) := fun i hi => by
    rw [← (HC.out i hi).1]; exact hcc i hi
  have HFL : Hid (∀ L q, L ≤ 40 → q ≤ 256 → Ka.fst v L + cl v L q ≤ 1099511627776) := fun L q hL hq => by
    have := fst_le v hs L hL
    have e : (2 : Nat) ^ 40 = 1099511627776 := by decide
    have := cl_mono v L hq
    omega
  have HL := hide h256
  have l256 : l.length ≤ 256 := by omega
  clear hx hw hk hf hs h256 hbd hcc
  go_enter Try.func10, Try.ntmps10
  go_wp2_with fail
  refine (C.out).mono ?_
  rintro e w1 ⟨rfl, hb⟩
  go_wp2_with fail
  refine (CF.out _ hb).mono ?_
  rintro e w2 ⟨rfl, rfl⟩
  go_wp2_with fail
  refine (CN.out _ hb).mono ?_
  rintro e w3 ⟨rfl, hb3⟩
  have hb4 := hb.trans (hb3.mono hb.size)
  clear hb hb3 C CF CN
  go_wp2_with (first | refine alloc_41 ?_)
  intro w4 hc4 hb5 hs5
  go_wp2_with (refine store_41 w3.heap.size _ _ rfl rfl hc4 ?_)
  intro w5 hc5 ho5
  have hz5 := ho5.size
  have h34 := hb4.size
  have HB5 := hide ((hb4.trans (hb5.mono hb4.size)).trans (ho5.below h34))
  have HN5 : Hid (A41 w5 w3.heap.size (fun L => Ka.fst v L + cl v L 0)) := hc5
  have hgn : w3.heap.size < w5.heap.size := by omega
  have hg0 : w.heap.size ≤ w3.heap.size := h34
  clear hc4 hc5 hb4 hb5 hs5 ho5 hz5 h34
  generalize w3.heap.size = gn at *
  go_wp2_with (at_make; refine wpList_make_full _ rfl _ _ 28 rfl w5.heap.size 33 i0 (.agg #[.int .i64 0, .int .u64 0]) 2 Try.underlying28 hi hz0 hz1 .i64 .i64 _ _ 256 rfl rfl rfl rfl ?b2 ?b3 ?b4 ?_)
  case b2 => rw [hz2]; omega
  case b3 => unfold maxLen; omega
  case b4 => simp
  intro w6 hown hgr
  have B6 := cel_made hown
  have hb6 : Below w5.heap.size w5 w6 := (Below.refl _ _).grown hgr (Nat.le_refl _) (fun k h => by cases h)
  rw [← cdP_zero v] at B6
  have HC6 := hide B6
  have HN6 := hide (Cel.kept HN5.out hb6)
  have HB6 := hide (HB5.out.trans (hb6.mono (by omega)))
  clear hown hgr hb6 hi hz0 hz1 hz2 HN5 HB5 B6
  generalize w5.heap.size = gc at *
  go_wp2
  go_loopw [21] (fun vi wr => ∃ q : Nat, q ≤ l.length ∧ vi = .int .i64 q ∧ Hid (A41 wr gn (fun L => Ka.fst v L + cl v L q)) ∧ Hid (Cel wr gc (cdP v q) 33) ∧ Hid (Below w.heap.size w wr)) (fun vi _ => l.length - (intOf vi).toNat)
  case atStart => exact ⟨0, Nat.zero_le _, rfl, HN6, HC6, HB6⟩
  case round =>
    clear HN6 HC6 HB6
    obtain ⟨q, hq, rfl, HN, HD, HB⟩ := hrel
    by_cases hlt : q < l.length
    · have hltz : (q : Int) < (l.length : Int) := by omega
      have q256 : (q : Int) < 256 := by omega
      have q5 : q < 256 := by omega
      obtain ⟨_, hv2⟩ := HC.out q hlt
      have c1 := (HB.out.cell (p := ⟨b, off + q, none⟩) hbw).trans (HCC.out q hlt)
      by_cases hp : 0 < v q
      · have hpz : (0 : Int) < (v q : Int) := by omega
        have v41 : (v q : Int) < 41 := by omega
        have v5 : v q < 41 := by omega
        have n0 := HN.out.cell (v q) v5
        have f0 := Cel.frozen HN.out (v q)
        have e0 : wr.cell? ⟨gc, q * 2, none⟩ = some (.int .i64 0) := HD.out.cell (q * 2) (by unfold cdP; rw [bl2_fst _ _ _ _ q5, if_neg (by omega)]; rfl)
        have e1 : wr.cell? ⟨gc, q * 2 + 1, none⟩ = some (.int .u64 0) := HD.out.cell (q * 2 + 1) (by unfold cdP; rw [bl2_snd _ _ _ _ q5, if_neg (by omega)]; rfl)
        have f1 := HD.out.frozen (q * 2)
        have f2 := HD.out.frozen (q * 2 + 1)
        have hle := HFL.out (v q) q hv2 (by omega)
        have HCD : Hid (Ka.fst v (v q) + cl v (v q) q = cod v q) := by
          show _ = cod v q
          unfold cod
          rw [if_pos hp, code_is v q hp hv2 q5]
        have HS := hide (cdP_step v q q5)
        have hgg : gn ≠ gc := by omega
        have HN1 : Hid (A41 (((wr.setCell ⟨gc, q * 2, none⟩ (.int .i64 (v q : Nat))).setCell ⟨gc, q * 2 + 1, none⟩ (.int .u64 (cod v q : Nat))).setCell ⟨gn, v q, none⟩ (.int .u64 ((cod v q : Nat) + 1))) gn (fun L => Ka.fst v L + cl v L (q + 1))) := by
          have h0 : A41 ((wr.setCell ⟨gc, q * 2, none⟩ (.int .i64 (v q : Nat))).setCell ⟨gc, q * 2 + 1, none⟩ (.int .u64 (cod v q : Nat))) gn (fun L => Ka.fst v L + cl v L q) := Cel.other (Cel.other HN.out (by show gn ≠ gc; exact hgg) _) (by show gn ≠ gc; exact hgg) _
          have h1 := h0.set (fun L => Ka.fst v L + cl v L (q + 1)) (v q) v5 (fun j _ hj => by show _ + (cl v j q + _) = _; rw [if_neg (fun x => hj x.2.symm)]; rfl)
          have e : Ka.fst v (v q) + cl v (v q) (q + 1) = cod v q + 1 := by
            show _ + (cl v (v q) q + _) = _
            rw [if_pos ⟨hp, rfl⟩, ← HCD.out]
            omega
          rw [e] at h1
          exact h1
        have HD1 : Hid (Cel (((wr.setCell ⟨gc, q * 2, none⟩ (.int .i64 (v q : Nat))).setCell ⟨gc, q * 2 + 1, none⟩ (.int .u64 (cod v q : Nat))).setCell ⟨gn, v q, none⟩ (.int .u64 ((cod v q : Nat) + 1))) gc (cdP v (q + 1)) 33) := by
          have h0 := ((HD.out.set (q * 2) (.int .i64 (v q : Nat))).set (q * 2 + 1) (.int .u64 (cod v q : Nat)))
          rw [HS.out] at h0
          exact h0.other (by show gc ≠ gn; exact Ne.symm hgg) _
        have HB1 : Hid (Below w.heap.size w (((wr.setCell ⟨gc, q * 2, none⟩ (.int .i64 (v q : Nat))).setCell ⟨gc, q * 2 + 1, none⟩ (.int .u64 (cod v q : Nat))).setCell ⟨gn, v q, none⟩ (.int .u64 ((cod v q : Nat) + 1)))) := ((HB.out.setCell (by show w.heap.size ≤ gc; omega) _).setCell (by show w.heap.size ≤ gc; omega) _).setCell (by show w.heap.size ≤ gn; omega) _
        clear HN HD HB HS
        rw [HCD.out] at n0 hle
        clear HCD
        generalize cod v q = X at *
        generalize v q = x at *
        go_wp2
        exact ⟨⟨q + 1, by omega, by go_num, HN1, HD1, HB1⟩, by simp only [intOf]; omega⟩
      · have hpz : ¬ (0 : Int) < (v q : Int) := by omega
        have HN1 : Hid (A41 wr gn (fun L => Ka.fst v L + cl v L (q + 1))) := by
          have e : (fun L => Ka.fst v L + cl v L (q + 1)) = (fun L => Ka.fst v L + cl v L q) := by funext L; show _ + (cl v L q + _) = _; rw [if_neg (fun x => hp x.1)]; rfl
          rw [e]; exact HN.out
        have HD1 : Hid (Cel wr gc (cdP v (q + 1)) 33) := by
          have := HD.out
          rw [cdP_same v q q5 (by omega)] at this
          exact this
        clear HN HD
        generalize v q = x at *
        go_wp2
        exact ⟨⟨q + 1, by omega, by go_num, HN1, HD1, HB⟩, by simp only [intOf]; omega⟩
    · obtain rfl : q = l.length := by omega
      have HD1 : Hid (Cel wr gc (cds v) 33) := by
        have := HD.out
        rw [HL.out, cdP_all] at this
        exact this
      clear HD
      go_wp2
      go_ret2
      exact CO.mk gc rfl HD1.out (by omega) HB.out
end Go.Proofs.Ytcjhiolginpgoaa

namespace Go.Proofs.Ytcjhiolginpgoaa
open Go.RowKit Num Bit Ji Hp
set_option linter.unusedVariables false
set_option linter.unusedSimpArgs false
set_option maxRecDepth 100000

/-- What counts cost at these lengths. -/
def costv (c l : List Int) : Nat := if win c 1048576 && win l 40 then Hv.tot (fun i => cntOf c i * cntOf l i) 256 else 0
theorem tot_le (a b : Nat → Nat) (ha : ∀ i, a i ≤ 1048576) (hb : ∀ i, b i ≤ 40) (k : Nat) : Hv.tot (fun i => a i * b i) k ≤ k * 41943040 := by
  induction k with
  | zero => exact Nat.zero_le _
  | succ k ih =>
    rw [Nat.add_mul, Nat.one_mul]
    unfold Hv.tot
    refine Nat.add_le_add ih ?_
    exact Nat.le_trans (Nat.mul_le_mul (ha k) (hb k)) (by decide)
theorem cnt_le40 {l : List Int} (h : ∀ i, i < l.length → 0 ≤ gi l i ∧ gi l i ≤ 40) (c : Nat) : cntOf l c ≤ 40 := by
  unfold cntOf
  by_cases g : c < l.length
  · have := h c g; omega
  · have : gi l c = 0 := by unfold gi; rw [List.getD_eq_getElem?_getD, List.getElem?_eq_none (by omega)]; rfl
    omega
set_option maxHeartbeats 4000000 in
theorem jcost_c (ao : Option Addr) (c : List Int) (cap : Nat) (bo : Option Addr) (l : List Int) (dap : Nat) (w : World) (hx : Nd w ao c) (hy : Nd w bo l) (hc : c.length ≤ 1048576) (hl : l.length ≤ 1048576) :
    Calls Try.prog 15 #[.slice ao c.length cap, .slice bo l.length dap] w fun e w' => e = .returned (.int .i64 (costv c l : Nat)) ∧ Below w.heap.size w w' := by
  have C1 := hide (jwithin_c ao c cap 1048576 w hx hc)
  have C2 : Hid (∀ w0, Below w.heap.size w w0 → Calls Try.prog 19 #[.slice bo l.length dap, .int .i64 40] w0 fun e w' => e = .returned (.bool (win l 40)) ∧ Below w0.heap.size w0 w') := fun w0 hb => jwithin_c bo l dap 40 w0 (hy.keep hb) hl
  cases k1 : win c 1048576 with
  | false =>
    have R : Hid (costv c l = 0) := by show costv c l = 0; unfold costv; rw [k1]; rfl
    rw [k1] at C1
    clear hx hy k1
    go_enter Try.func15, Try.ntmps15
    go_wp2_with fail
    refine (C1.out).mono ?_
    rintro e w1 ⟨rfl, hb⟩
    go_wp2
    go_ret
    rw [R.out]
    exact ⟨rfl, hb⟩
  | true =>
    rw [k1] at C1
    cases k2 : win l 40 with
    | false =>
      have R : Hid (costv c l = 0) := by show costv c l = 0; unfold costv; rw [k1, k2]; rfl
      rw [k2] at C2
      clear hx hy k1 k2
      go_enter Try.func15, Try.ntmps15
      go_wp2_with fail
      refine (C1.out).mono ?_
      rintro e w1 ⟨rfl, hb⟩
      go_wp2_with fail
      refine (C2.out _ hb).mono ?_
      rintro e w2 ⟨rfl, hb2⟩
      have hb3 := hb.trans (hb2.mono hb.size)
      go_wp2
      go_ret
      rw [R.out]
      exact ⟨rfl, hb3⟩
    | true =>
      rw [k2] at C2
      obtain ⟨c256, cb⟩ := win_len k1
      obtain ⟨l256, lb⟩ := win_len k2
      obtain ⟨A, hA⟩ : ∃ A, Hid (A = cntOf c) := ⟨_, rfl⟩
      obtain ⟨B, hB⟩ : ∃ B, Hid (B = cntOf l) := ⟨_, rfl⟩
      have R : Hid (costv c l = Hv.tot (fun i => A i * B i) 256) := by show costv c l = _; unfold costv; rw [k1, k2, hA.out, hB.out]; rfl
      have TA : ∀ i, A i ≤ 1048576 := by rw [hA.out]; exact cnt_le cb
      have TB : ∀ i, B i ≤ 40 := by rw [hB.out]; exact cnt_le40 lb
      have HTT := hide (tot_le A B TA TB)
      have HTA := hide TA
      have HTB := hide TB
      obtain ⟨b, off, rfl, hbw, hcc⟩ := hx (by omega)
      obtain ⟨b2, off2, rfl, hbw2, hcc2⟩ := hy (by omega)
      have HCC : Hid (∀ i, i < 256 → w.cell? ⟨b, off + i, none⟩ = some (.int .i64 (A i : Nat))) := fun i hi => by
        have h1 := hcc i (by omega)
        have h2 := cb i (by omega)
        rw [hA.out]
        unfold cntOf
        rw [h1]
        congr 2
        omega
      have HCD : Hid (∀ i, i < 256 → w.cell? ⟨b2, off2 + i, none⟩ = some (.int .i64 (B i : Nat))) := fun i hi => by
        have h1 := hcc2 i (by omega)
        have h2 := lb i (by omega)
        rw [hB.out]
        unfold cntOf
        rw [h1]
        congr 2
        omega
      have HC256 := hide c256
      have hcl : c.length ≤ 256 := by omega
      have hll : c.length ≤ l.length := by omega
      clear hcc hcc2 cb lb TA TB k1 k2 c256 l256 hx hy
      go_enter Try.func15, Try.ntmps15
      go_wp2_with fail
      refine (C1.out).mono ?_
      rintro e w1 ⟨rfl, hb⟩
      go_wp2_with fail
      refine (C2.out _ hb).mono ?_
      rintro e w2 ⟨rfl, hb2⟩
      have HB3 := hide (hb.trans (hb2.mono hb.size))
      clear hb hb2 C1 C2
      go_wp2
      go_loopw [5, 18] (fun vs vi wr => ∃ (q s : Nat), q ≤ c.length ∧ vi = .int .i64 q ∧ vs = .int .i64 s ∧ Hid (s = Hv.tot (fun i => A i * B i) q) ∧ wr = w2) (fun _ vi _ => c.length - (intOf vi).toNat)
      case atStart => exact ⟨0, 0, Nat.zero_le _, rfl, rfl, rfl, rfl⟩
      case round =>
        obtain ⟨q, s, hq, rfl, rfl, HI, hw⟩ := hrel
        subst hw
        by_cases hlt : q < c.length
        · have hltz : (q : Int) < (c.length : Int) := by omega
          have hlt2 : (q : Int) < (l.length : Int) := by omega
          have e1 := (HB3.out.cell (p := ⟨b, off + q, none⟩) hbw).trans (HCC.out q (by omega))
          have e2 := (HB3.out.cell (p := ⟨b2, off2 + q, none⟩) hbw2).trans (HCD.out q (by omega))
          have b1 := HTA.out q
          have b2' := HTB.out q
          have HI1 : Hid (s + A q * B q = Hv.tot (fun i => A i * B i) (q + 1)) := by show _ = Hv.tot _ q + A q * B q; rw [HI.out]
          have bs : s ≤ 10737418240 := by
            have := HTT.out q
            have h3 := HI.out
            have : q * 41943040 ≤ 256 * 41943040 := Nat.mul_le_mul_right _ (by omega)
            omega
          generalize A q = x at *
          generalize B q = y at *
          have xy : x * y ≤ 1048576 * 40 := Nat.mul_le_mul b1 b2'
          have exy : (x : Int) * (y : Int) = ((x * y : Nat) : Int) := by rw [Int.natCast_mul]
          generalize x * y = z at *
          go_wp2
          exact ⟨⟨q + 1, s + z, by omega, by go_num, by go_num, HI1, trivial⟩, by simp only [intOf]; omega⟩
        · obtain rfl : q = c.length := by omega
          have HR : Hid (costv c l = s) := by
            have := HI.out
            rw [HC256.out] at this
            show costv c l = s
            rw [R.out, this]
          go_wp2
          go_ret
          rw [HR.out]
          exact ⟨rfl, HB3.out⟩
end Go.Proofs.Ytcjhiolginpgoaa

namespace Go.Proofs.Ytcjhiolginpgoaa
open Go.RowKit Num Bit
set_option linter.unusedVariables false
set_option linter.unusedSimpArgs false
set_option maxRecDepth 100000

/-- Neighbours of k bits change places. -/
def stp (k M x : Nat) : Nat := (x / 2 ^ k &&& M) ||| ((x &&& M) * 2 ^ k)
theorem sub_div1 {i k : Nat} (hk : 0 < k) (d : k ≤ i) : (i - k) / k = i / k - 1 := by
  obtain ⟨j, rfl⟩ : ∃ j, i = j + k := ⟨i - k, by omega⟩
  rw [Nat.add_sub_cancel, Nat.add_div_right j hk]
  rfl
theorem stp_test (k M x i : Nat) (hM : ∀ j, j < 64 → M.testBit j = decide (j / k % 2 = 0)) (hM2 : M < 18446744073709551616) (hx : x < 18446744073709551616) (hk : 0 < k) (hk2 : k ≤ 32) (hi : i < 64) : (stp k M x).testBit i = x.testBit (if i / k % 2 = 0 then i + k else i - k) := by
  have hb : ∀ j, 64 ≤ j → M.testBit j = false := fun j hj => Nat.testBit_lt_two_pow (Nat.lt_of_lt_of_le hM2 (Nat.pow_le_pow_right (n := 2) (by decide) hj))
  unfold stp
  rw [Nat.testBit_or, Nat.testBit_and, Nat.testBit_div_two_pow, ← Nat.shiftLeft_eq, Nat.testBit_shiftLeft, Nat.testBit_and, hM i hi]
  by_cases c : i / k % 2 = 0
  · rw [if_pos c]
    simp only [c, decide_true, Bool.and_true]
    by_cases d : k ≤ i
    · have e : (i - k) / k = i / k - 1 := sub_div1 hk d
      rw [hM (i - k) (by omega), e]
      have : 1 ≤ i / k := (Nat.le_div_iff_mul_le hk).2 (by omega)
      have : ¬ (i / k - 1) % 2 = 0 := by omega
      simp [this]
    · simp [d]
  · rw [if_neg c]
    have d : k ≤ i := by
      refine Nat.le_of_not_lt fun h => c ?_
      rw [Nat.div_eq_of_lt h]
    have e : (i - k) / k = i / k - 1 := sub_div1 hk d
    have : 1 ≤ i / k := (Nat.le_div_iff_mul_le hk).2 (by omega)
    rw [hM (i - k) (by omega), e]
    have h3 : (i / k - 1) % 2 = 0 := by omega
    simp [c, h3, d]
theorem stp_lt (k M x : Nat) (hM : M * 2 ^ k < 18446744073709551616) (hx : x < 18446744073709551616) : stp k M x < 18446744073709551616 := by
  have h1 : (x / 2 ^ k &&& M) < 2 ^ 64 := Nat.lt_of_le_of_lt Nat.and_le_left (Nat.lt_of_le_of_lt (Nat.div_le_self _ _) hx)
  have h2 : (x &&& M) * 2 ^ k < 2 ^ 64 := Nat.lt_of_le_of_lt (Nat.mul_le_mul_right _ Nat.and_le_right) hM
  exact Nat.or_lt_two_pow h1 h2
theorem and_nat (a b : Nat) (ha : a < 18446744073709551616) (hb : b < 18446744073709551616) : bits .and .u64 (a : Int) (b : Int) = ((a &&& b : Nat) : Int) := by
  rw [bits_and _ _ (Int.natCast_nonneg _) (Int.ofNat_lt.2 ha) (Int.natCast_nonneg _) (Int.ofNat_lt.2 hb), Int.toNat_natCast, Int.toNat_natCast]
theorem or_nat (a b : Nat) (ha : a < 18446744073709551616) (hb : b < 18446744073709551616) : bits .or .u64 (a : Int) (b : Int) = ((a ||| b : Nat) : Int) := by
  rw [u64_or _ _ (Int.natCast_nonneg _) (Int.ofNat_lt.2 ha) (Int.natCast_nonneg _) (Int.ofNat_lt.2 hb), Int.toNat_natCast, Int.toNat_natCast]
/-- As the walk spells it. -/
theorem stp_int (k M x D : Nat) (hD : D = 2 ^ k) (hM : M * D < 18446744073709551616) (hM2 : M < 18446744073709551616) (hx : x < 18446744073709551616) :
    bits .or .u64 (bits .and .u64 ((x : Int) / (D : Nat)) (M : Nat)) (IntKind.u64.wrap (bits .and .u64 (x : Int) (M : Nat) * (D : Nat))) = ((stp k M x : Nat) : Int) := by
  have d0 : (x : Int) / (D : Nat) = ((x / D : Nat) : Int) := by rw [Int.natCast_ediv]
  have hq : x / D < 18446744073709551616 := Nat.lt_of_le_of_lt (Nat.div_le_self _ _) hx
  rw [d0, and_nat _ _ hq hM2, and_nat _ _ hx hM2]
  have h2 : (x &&& M) * D < 18446744073709551616 := Nat.lt_of_le_of_lt (Nat.mul_le_mul_right _ Nat.and_le_right) hM
  have h1 : (x / D &&& M) < 18446744073709551616 := Nat.lt_of_le_of_lt Nat.and_le_left hq
  have e : IntKind.u64.wrap (((x &&& M : Nat) : Int) * (D : Nat)) = (((x &&& M) * D : Nat) : Int) := by
    rw [← Int.natCast_mul, IntKind.wrap_u64]
    generalize (x &&& M) * D = y at h2
    omega
  rw [e, or_nat _ _ h1 h2]
  unfold stp
  rw [hD]
/-- The halves change places. -/
def hlf (x : Nat) : Nat := (x / 4294967296) ||| (x * 4294967296 % 18446744073709551616)
theorem hlf_int (x : Nat) (hx : x < 18446744073709551616) : bits .or .u64 ((x : Int) / 4294967296) (IntKind.u64.wrap ((x : Int) * 4294967296)) = ((hlf x : Nat) : Int) := by
  have d0 : (x : Int) / 4294967296 = ((x / 4294967296 : Nat) : Int) := by rw [Int.natCast_ediv]; rfl
  have d1 : IntKind.u64.wrap ((x : Int) * 4294967296) = ((x * 4294967296 % 18446744073709551616 : Nat) : Int) := by rw [IntKind.wrap_u64, Int.natCast_emod, Int.natCast_mul]; rfl
  unfold hlf
  have l1 : x / 4294967296 < 18446744073709551616 := Nat.lt_of_le_of_lt (Nat.div_le_self _ _) hx
  have l2 : x * 4294967296 % 18446744073709551616 < 18446744073709551616 := Nat.mod_lt _ (by decide)
  rw [d0, d1]
  clear d0 d1
  generalize x / 4294967296 = a at *
  generalize x * 4294967296 % 18446744073709551616 = b at *
  exact or_nat a b l1 l2
theorem hlf_lt (x : Nat) (hx : x < 18446744073709551616) : hlf x < 18446744073709551616 := by
  have l1 : x / 4294967296 < 2 ^ 64 := Nat.lt_of_le_of_lt (Nat.div_le_self _ _) hx
  have l2 : x * 4294967296 % 18446744073709551616 < 2 ^ 64 := Nat.mod_lt _ (by decide)
  exact Nat.or_lt_two_pow l1 l2
theorem hlf_test (x i : Nat) (hx : x < 18446744073709551616) (hi : i < 64) : (hlf x).testBit i = x.testBit (if i < 32 then i + 32 else i - 32) := by
  unfold hlf
  have e1 : (4294967296 : Nat) = 2 ^ 32 := by decide
  have e2 : (18446744073709551616 : Nat) = 2 ^ 64 := by decide
  rw [Nat.testBit_or, e1, e2, Nat.testBit_div_two_pow, Nat.testBit_mod_two_pow, ← Nat.shiftLeft_eq, Nat.testBit_shiftLeft]
  by_cases c : i < 32
  · rw [if_pos c]
    simp [show ¬ 32 ≤ i by omega]
  · rw [if_neg c]
    have : x.testBit (i + 32) = false := Nat.testBit_lt_two_pow (Nat.lt_of_lt_of_le hx (by rw [e2]; exact Nat.pow_le_pow_right (by decide) (by omega)))
    simp [this, hi, show 32 ≤ i by omega]
theorem m1 : ∀ j, j < 64 → (6148914691236517205 : Nat).testBit j = decide (j / 1 % 2 = 0) := by decide
theorem m2 : ∀ j, j < 64 → (3689348814741910323 : Nat).testBit j = decide (j / 2 % 2 = 0) := by decide
theorem m4 : ∀ j, j < 64 → (1085102592571150095 : Nat).testBit j = decide (j / 4 % 2 = 0) := by decide
theorem m8 : ∀ j, j < 64 → (71777214294589695 : Nat).testBit j = decide (j / 8 % 2 = 0) := by decide
theorem m16 : ∀ j, j < 64 → (281470681808895 : Nat).testBit j = decide (j / 16 % 2 = 0) := by decide
def rvB (x : Nat) : Nat := hlf (stp 16 281470681808895 (stp 8 71777214294589695 x))
/-- The bits the other way round. -/
def rv (x : Nat) : Nat := rvB (stp 4 1085102592571150095 (stp 2 3689348814741910323 (stp 1 6148914691236517205 x)))
theorem rv_spec (x : Nat) (hx : x < 18446744073709551616) : rv x < 18446744073709551616 ∧ ∀ i, i < 64 → (rv x).testBit i = x.testBit (63 - i) := by
  have h1 := stp_lt 1 6148914691236517205 x (by decide) hx
  have h2 := stp_lt 2 3689348814741910323 _ (by decide) h1
  have h3 := stp_lt 4 1085102592571150095 _ (by decide) h2
  have h4 := stp_lt 8 71777214294589695 _ (by decide) h3
  have h5 := stp_lt 16 281470681808895 _ (by decide) h4
  refine ⟨hlf_lt _ h5, fun i hi => ?_⟩
  unfold rv rvB
  rw [hlf_test _ _ h5 hi, stp_test 16 _ _ _ m16 (by decide) h4 (by decide) (by decide) (by split <;> omega), stp_test 8 _ _ _ m8 (by decide) h3 (by decide) (by decide) (by split <;> split <;> omega), stp_test 4 _ _ _ m4 (by decide) h2 (by decide) (by decide) (by split <;> split <;> split <;> omega), stp_test 2 _ _ _ m2 (by decide) h1 (by decide) (by decide) (by split <;> split <;> split <;> split <;> omega), stp_test 1 _ _ _ m1 (by decide) hx (by decide) (by decide) (by split <;> split <;> split <;> split <;> split <;> omega)]
  congr 1
  revert i
  decide
theorem jrvB_c (x : Nat) (hx : x < 18446744073709551616) (w : World) :
    Calls Try.prog 43 #[.int .u64 (x : Nat)] w fun e w' => e = .returned (.int .u64 (rvB x : Nat)) ∧ w' = w := by
  have hz : (x : Int) < 18446744073709551616 := by omega
  have l1 := stp_lt 8 71777214294589695 x (by decide) hx
  have l2 := stp_lt 16 281470681808895 _ (by decide) l1
  have q1 : bits .or .u64 (bits .and .u64 ((x : Int) / 256) 71777214294589695) (IntKind.u64.wrap (bits .and .u64 (x : Int) 71777214294589695 * 256)) = ((stp 8 71777214294589695 x : Nat) : Int) := stp_int 8 71777214294589695 x 256 (by decide) (by decide) (by decide) hx
  have q2 : bits .or .u64 (bits .and .u64 (((stp 8 71777214294589695 x : Nat) : Int) / 65536) 281470681808895) (IntKind.u64.wrap (bits .and .u64 ((stp 8 71777214294589695 x : Nat) : Int) 281470681808895 * 65536)) = ((stp 16 281470681808895 (stp 8 71777214294589695 x) : Nat) : Int) := stp_int 16 281470681808895 _ 65536 (by decide) (by decide) (by decide) l1
  have q3 := hlf_int _ l2
  have R : Hid (rvB x = hlf (stp 16 281470681808895 (stp 8 71777214294589695 x))) := rfl
  generalize rvB x = V at *
  generalize stp 8 71777214294589695 x = x1 at *
  generalize stp 16 281470681808895 x1 = x2 at *
  generalize hlf x2 = x3 at *
  have z1 : (x1 : Int) < 18446744073709551616 := by omega
  have z2 : (x2 : Int) < 18446744073709551616 := by omega
  go_enter Try.func43, Try.ntmps43
  go_wp2
  go_ret
  rw [R.out]
  exact ⟨rfl, rfl⟩
theorem jrv_c (x : Nat) (hx : x < 18446744073709551616) (w : World) :
    Calls Try.prog 29 #[.int .u64 (x : Nat)] w fun e w' => e = .returned (.int .u64 (rv x : Nat)) ∧ w' = w := by
  have hz : (x : Int) < 18446744073709551616 := by omega
  have l1 := stp_lt 1 6148914691236517205 x (by decide) hx
  have l2 := stp_lt 2 3689348814741910323 _ (by decide) l1
  have l3 := stp_lt 4 1085102592571150095 _ (by decide) l2
  have q1 : bits .or .u64 (bits .and .u64 ((x : Int) / 2) 6148914691236517205) (IntKind.u64.wrap (bits .and .u64 (x : Int) 6148914691236517205 * 2)) = ((stp 1 6148914691236517205 x : Nat) : Int) := stp_int 1 6148914691236517205 x 2 (by decide) (by decide) (by decide) hx
  have q2 : bits .or .u64 (bits .and .u64 (((stp 1 6148914691236517205 x : Nat) : Int) / 4) 3689348814741910323) (IntKind.u64.wrap (bits .and .u64 ((stp 1 6148914691236517205 x : Nat) : Int) 3689348814741910323 * 4)) = ((stp 2 3689348814741910323 (stp 1 6148914691236517205 x) : Nat) : Int) := stp_int 2 3689348814741910323 _ 4 (by decide) (by decide) (by decide) l1
  have q3 : bits .or .u64 (bits .and .u64 (((stp 2 3689348814741910323 (stp 1 6148914691236517205 x) : Nat) : Int) / 16) 1085102592571150095) (IntKind.u64.wrap (bits .and .u64 ((stp 2 3689348814741910323 (stp 1 6148914691236517205 x) : Nat) : Int) 1085102592571150095 * 16)) = ((stp 4 1085102592571150095 (stp 2 3689348814741910323 (stp 1 6148914691236517205 x)) : Nat) : Int) := stp_int 4 1085102592571150095 _ 16 (by decide) (by decide) (by decide) l2
  have C := hide (jrvB_c _ l3)
  have R : Hid (rv x = rvB (stp 4 1085102592571150095 (stp 2 3689348814741910323 (stp 1 6148914691236517205 x)))) := rfl
  generalize rv x = V at *
  generalize stp 1 6148914691236517205 x = x1 at *
  generalize stp 2 3689348814741910323 x1 = x2 at *
  generalize stp 4 1085102592571150095 x2 = x3 at *
  generalize rvB x3 = x4 at *
  have z1 : (x1 : Int) < 18446744073709551616 := by omega
  have z2 : (x2 : Int) < 18446744073709551616 := by omega
  have z3 : (x3 : Int) < 18446744073709551616 := by omega
  go_enter Try.func29, Try.ntmps29
  go_wp2_with fail
  refine (C.out _).mono ?_
  rintro e w1 ⟨rfl, rfl⟩
  go_wp2
  go_ret
  rw [R.out]
  exact ⟨rfl, rfl⟩
end Go.Proofs.Ytcjhiolginpgoaa
