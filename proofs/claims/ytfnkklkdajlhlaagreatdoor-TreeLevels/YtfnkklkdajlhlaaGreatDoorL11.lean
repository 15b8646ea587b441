/-
  Plain arithmetic of the landed package plain: groups of eight words, their counts, the word that is sought. The contracts of the program's groups and wordsOf. The contract of the program's counted: an array of eight counts by value. An array of whatever type in a block; the contract of the program's starts. The contracts of the program's count and length of rows of a kind. Trees in memory; the contract of the program's Check.
-/
import Derived.Test.YtfnkklkdajlhlaaGreatDoorL00
import Derived.Test.YtfnkklkdajlhlaaGreatDoorL01
import Derived.Test.YtfnkklkdajlhlaaGreatDoorL04
import Derived.Deep.WholeRow
import Derived.Laws.ResultCell
import Derived.Test.YtfnkklkdajlhlaaGreatDoorL10
import Derived.Test.YtfnkklkdajlhlaaGreatDoorL07
set_option linter.unusedVariables false
set_option linter.unusedSimpArgs false
set_option maxRecDepth 100000
set_option maxHeartbeats 16000000
namespace Go.Proofs.YtfnkklkdajlhlaaGreatDoor
open Num
namespace Bit
def grp (xs : List Nat) (g : Nat) : List Nat := (xs.drop (8 * g)).take 8
theorem length_grp (xs : List Nat) (g : Nat) : (grp xs g).length = min 8 (xs.length - 8 * g) := by simp [grp]
theorem gt_grp (xs : List Nat) (g k : Nat) (h : k < 8) : gt (grp xs g) k = gt xs (8 * g + k) := by
 unfold gt grp
 rw [List.getD_eq_getElem?_getD, List.getD_eq_getElem?_getD, List.getElem?_take_of_lt h, List.getElem?_drop]
theorem fit_grp (xs : List Nat) (hf : Fit xs) (g : Nat) : Fit (grp xs g) := by
 intro i
 by_cases h : i < 8
 ·rw [gt_grp xs g i h]; exact hf _
 ·rw [gt_out _ _ (by rw [length_grp]; omega)]; decide
theorem bitAt_grp (xs : List Nat) (g i : Nat) (h : i < 512) : bitAt (grp xs g) i = bitAt xs (512 * g + i) := by
 unfold bitAt
 rw [gt_grp xs g (i / 64) (by omega), show (512 * g + i) / 64 = 8 * g + i / 64 by omega, show (512 * g + i) % 64 = i % 64 by omega]
theorem cntB_grp (xs : List Nat) (g : Nat) : ∀ i, i ≤ 512 → cntB xs (512 * g + i) = cntB xs (512 * g) + cntB (grp xs g) i
 | 0, _ => by simp [cntB]
 | i + 1, h => by
  have ih := cntB_grp xs g i (by omega)
  rw [show 512 * g + (i + 1) = 512 * g + i + 1 by omega]
  simp only [cntB]
  rw [ih, bitAt_grp xs g i (by omega)]
  omega
theorem bitAt_out (xs : List Nat) (i : Nat) (h : 64 * xs.length ≤ i) : bitAt xs i = false := by
 unfold bitAt
 rw [gt_out xs _ (by omega)]
 simp
theorem cntB_out (xs : List Nat) (d : Nat) : cntB xs (64 * xs.length + d) = cntB xs (64 * xs.length) := by
 induction d with
 | zero => rfl
 | succ d ih =>
  rw [show 64 * xs.length + (d + 1) = 64 * xs.length + d + 1 by omega]
  simp only [cntB]
  rw [ih, bitAt_out xs _ (by omega)]
  simp
theorem cntB_all (xs : List Nat) (g : Nat) : cntB xs (512 * (g + 1)) = cntB xs (512 * g) + cntB (grp xs g) (64 * (grp xs g).length) := by
 have a := cntB_grp xs g 512 (by omega)
 have hl : (grp xs g).length ≤ 8 := by rw [length_grp]; omega
 have b := cntB_out (grp xs g) (512 - 64 * (grp xs g).length)
 rw [show 64 * (grp xs g).length + (512 - 64 * (grp xs g).length) = 512 by omega] at b
 rw [show 512 * (g + 1) = 512 * g + 512 by omega, a, b]
def ahP (ws : List Nat) (q : Nat) : List Int := (List.range 8).map fun j => if j < q then (cntB ws (64 * j) : Int) else 0
def ahd (ws : List Nat) : List Int := ahP ws ws.length
theorem length_ahP (ws : List Nat) (q : Nat) : (ahP ws q).length = 8 := by simp [ahP]
theorem length_ahd (ws : List Nat) : (ahd ws).length = 8 := length_ahP _ _
theorem gi_ahP (ws : List Nat) (q i : Nat) (h : i < 8) : gi (ahP ws q) i = if i < q then (cntB ws (64 * i) : Int) else 0 := gi_map _ _ _ h
theorem ahP_zero (ws : List Nat) : ahP ws 0 = List.replicate 8 0 := by
 unfold ahP
 simp
 rfl
theorem gi_set (l : List Int) (i j : Nat) (v : Int) (h : i < l.length) : gi (l.set i v) j = if i = j then v else gi l j := by
 unfold gi
 rw [List.getD_eq_getElem?_getD, List.getD_eq_getElem?_getD, List.getElem?_set]
 by_cases c : i = j
 ·subst c; simp [h]
 ·simp [c]
theorem ahP_step (ws : List Nat) (q : Nat) (h : q < 8) : (ahP ws q).set q (cntB ws (64 * q) : Int) = ahP ws (q + 1) := by
 refine gi_ext (by simp [length_ahP]) fun i hi => ?_
 rw [List.length_set, length_ahP] at hi
 rw [gi_set _ _ _ _ (by rw [length_ahP]; exact h), gi_ahP _ _ _ hi, gi_ahP _ _ _ hi]
 by_cases c : q = i
 ·subst c; rw [if_pos rfl, if_pos (by omega)]
 ·rw [if_neg c]
  by_cases d : i < q
  ·rw [if_pos d, if_pos (by omega)]
  ·rw [if_neg d, if_neg (by omega)]
theorem cntB_step (ws : List Nat) (q : Nat) : cntB ws (64 * (q + 1)) = cntB ws (64 * q) + cnt (gt ws q) 64 := by
 have := cntB_word ws q 64 (Nat.le_refl _)
 rw [show 64 * (q + 1) = 64 * q + 64 by omega]
 exact this
def ahT (xs : List Nat) (g : Nat) : List Int := (ahd (grp xs g)).take (grp xs g).length
theorem length_ahT (xs : List Nat) (g : Nat) : (ahT xs g).length = (grp xs g).length := by
 unfold ahT
 rw [List.length_take, length_ahd, length_grp]
 omega
theorem gi_take (l : List Int) (n i : Nat) (h : i < n) : gi (l.take n) i = gi l i := by
 unfold gi
 rw [List.getD_eq_getElem?_getD, List.getD_eq_getElem?_getD, List.getElem?_take_of_lt h]
theorem gi_drop (l : List Int) (n i : Nat) : gi (l.drop n) i = gi l (n + i) := by
 unfold gi
 rw [List.getD_eq_getElem?_getD, List.getD_eq_getElem?_getD, List.getElem?_drop]
theorem gi_ahT (xs : List Nat) (g i : Nat) (h : i < (grp xs g).length) : gi (ahT xs g) i = (cntB (grp xs g) (64 * i) : Int) := by
 have := length_grp xs g
 unfold ahT
 rw [gi_take _ _ _ h]
 unfold ahd
 rw [gi_ahP _ _ _ (by omega), if_pos h]
theorem chk_len (N : Int) (xs : List Nat) (h : chk N xs = true) : ∃ m : Nat, N = (m : Int) ∧ m ≤ 1048576 ∧ xs.length = (m + 63) / 64 := by
 obtain ⟨h0, h1, h2, _⟩ := chk_out N xs h
 exact ⟨N.toNat, by omega, by omega, by omega⟩
theorem onesI_ok (m : Nat) (xs : List Nat) (hk : chk (m : Int) xs = true) (i : Nat) (hi : i ≤ m) : onesI (m : Int) xs (i : Int) = (cntB xs i : Int) := by
 unfold onesI
 rw [if_pos hk, show (min (i : Int) (m : Int)).toNat = i by omega]
theorem supI_ok (m : Nat) (xs : List Nat) (hk : chk (m : Int) xs = true) (g : Nat) (hg : g ≤ m / 512) : supI (m : Int) xs g = (cntB xs (512 * g) : Int) := by
 unfold supI
 have := onesI_ok m xs hk (512 * g) (by omega)
 rw [← this]
 congr 1
theorem subI_ok (m : Nat) (xs : List Nat) (hk : chk (m : Int) xs = true) (hl : xs.length = (m + 63) / 64) (g i : Nat) (hi : i < (grp xs g).length) : subI (m : Int) xs (8 * g + i) = (cntB (grp xs g) (64 * i) : Int) := by
 rw [length_grp] at hi
 unfold subI
 have a := onesI_ok m xs hk (64 * (8 * g + i)) (by omega)
 have b := supI_ok m xs hk g (by omega)
 have c := cntB_grp xs g (64 * i) (by omega)
 rw [show 512 * g + 64 * i = 64 * (8 * g + i) by omega] at c
 rw [show (64 * ((8 * g + i : Nat) : Int)) = ((64 * (8 * g + i) : Nat) : Int) by omega, a, show (8 * g + i) / 8 = g by omega, b, c]
 omega
theorem subP_grp (m : Nat) (xs : List Nat) (hk : chk (m : Int) xs = true) (hl : xs.length = (m + 63) / 64) (g : Nat) (hg : 8 * g ≤ xs.length) : subP (m : Int) xs (8 * g) ++ ahT xs g = subP (m : Int) xs (8 * g + (grp xs g).length) := by
 refine gi_ext (by rw [List.length_append, length_subP, length_subP, length_ahT]) fun i hi => ?_
 rw [List.length_append, length_subP, length_ahT] at hi
 rw [gi_subP _ _ _ _ hi]
 by_cases c : i < 8 * g
 ·have : gi (subP (m : Int) xs (8 * g) ++ ahT xs g) i = gi (subP (m : Int) xs (8 * g)) i := by
   unfold gi
   rw [List.getD_eq_getElem?_getD, List.getD_eq_getElem?_getD, List.getElem?_append_left (by rw [length_subP]; exact c)]
  rw [this, gi_subP _ _ _ _ c]
 ·have : gi (subP (m : Int) xs (8 * g) ++ ahT xs g) i = gi (ahT xs g) (i - 8 * g) := by
   unfold gi
   rw [List.getD_eq_getElem?_getD, List.getD_eq_getElem?_getD, List.getElem?_append_right (by rw [length_subP]; omega), length_subP]
  rw [this, gi_ahT xs g _ (by omega), ← subI_ok m xs hk hl g (i - 8 * g) (by omega), show 8 * g + (i - 8 * g) = i by omega]
def wb (xs : List Nat) (bit : Bool) (j : Nat) : Nat := if bit then gt xs j else 18446744073709551615 - gt xs j
theorem wb_lt (xs : List Nat) (hf : Fit xs) (bit : Bool) (j : Nat) : wb xs bit j < 18446744073709551616 := by
 have := hf j
 unfold wb
 split <;> omega
theorem cB_word (xs : List Nat) (hf : Fit xs) (bit : Bool) (j r : Nat) (hr : r ≤ 64) : cB xs bit (64 * j + r) = cB xs bit (64 * j) + cnt (wb xs bit j) r := by
 have a := cntB_word xs j r hr
 have l := cntB_le xs (64 * j)
 have l2 := cnt_le (gt xs j) r
 unfold cB wb
 cases bit with
 | true => simp only [if_true]; exact a
 | false =>
  have f := cnt_flip (gt xs j) r 64 (by have := hf j; omega) hr
  rw [show (2 ^ 64 - 1 - gt xs j) = 18446744073709551615 - gt xs j by omega] at f
  simp only [Bool.false_eq_true, if_false]
  rw [a, f]
  omega
theorem wb_bit (xs : List Nat) (hf : Fit xs) (bit : Bool) (j r : Nat) (hr : r < 64) (h : bitAt xs (64 * j + r) = bit) : wb xs bit j / 2 ^ r % 2 = 1 := by
 have a := cB_word xs hf bit j r (by omega)
 have b := cB_word xs hf bit j (r + 1) (by omega)
 have c := cB_succ xs bit (64 * j + r)
 rw [if_pos h] at c
 rw [show 64 * j + (r + 1) = 64 * j + r + 1 by omega] at b
 simp only [cnt] at b
 have : (wb xs bit j / 2 ^ r % 2) < 2 := Nat.mod_lt _ (by decide)
 revert b
 generalize wb xs bit j / 2 ^ r % 2 = z at *
 intro b
 omega
theorem sought_end (m : Nat) (xs : List Nat) (hf : Fit xs) (hl : xs.length = (m + 63) / 64) (bit : Bool) (k j : Nat) (hk : k < cB xs bit m) (hj : j ≤ xs.length - 1)
  (h1 : ∀ i, i < j → cB xs bit (64 * (i + 1)) ≤ k) (h2 : ∀ i, j ≤ i → i < xs.length - 1 → k < cB xs bit (64 * (i + 1))) :
  cB xs bit (64 * j) ≤ k ∧ ∃ r : Nat, r < 64 ∧ selI (wb xs bit j : Int) ((k : Int) - (cB xs bit (64 * j) : Int)) = (r : Int) ∧ pselO (m : Int) xs bit (k : Int) = some (64 * j + r) := by
 have hle : cB xs bit (64 * j) ≤ k := by
  by_cases c : j = 0
  ·subst c; have := cB_le xs bit (64 * 0); omega
  ·have := h1 (j - 1) (by omega)
   rw [show j - 1 + 1 = j by omega] at this
   exact this
 refine ⟨hle, ?_⟩
 have hs : (pselO (m : Int) xs bit (k : Int)).isSome = true := (psel_iff _ _ _ _).2 ⟨by omega, by rw [Int.toNat_natCast]; omega⟩
 obtain ⟨i, hi⟩ := Option.isSome_iff_exists.1 hs
 obtain ⟨g1, g2, g3⟩ := psel_spec _ _ _ _ _ hi
 rw [Int.toNat_natCast] at g1
 have e1 : 64 * j ≤ i := by
  apply Nat.le_of_not_lt
  intro c
  have a := cB_succ xs bit i
  rw [if_pos g2] at a
  have b := cB_mono xs bit (i + 1) (64 * j - (i + 1))
  rw [show i + 1 + (64 * j - (i + 1)) = 64 * j by omega] at b
  omega
 have e2 : i < 64 * (j + 1) := by
  apply Nat.lt_of_not_le
  intro c
  have a := h2 j (Nat.le_refl _) (by omega)
  have b := cB_mono xs bit (64 * (j + 1)) (i - 64 * (j + 1))
  rw [show 64 * (j + 1) + (i - 64 * (j + 1)) = i by omega] at b
  omega
 have ei : i = 64 * j + (i - 64 * j) := by omega
 refine ⟨i - 64 * j, by omega, ?_, by rw [← ei]; exact hi⟩
 have w1 := wb_bit xs hf bit j (i - 64 * j) (by omega) (by rw [← ei]; exact g2)
 have w2 := cB_word xs hf bit j (i - 64 * j) (by omega)
 rw [← ei] at w2
 unfold selI
 rw [Int.toNat_natCast]
 have := selGo_find (wb xs bit j) ((k : Int) - (cB xs bit (64 * j) : Int)) (i - 64 * j) w1 (by omega) (i - 64 * j) 0 (by omega) (by omega)
 rw [show 64 - 0 = 64 from rfl] at this
 rw [this]
theorem flip_wb (xs : List Nat) (hf : Fit xs) (j : Nat) : Go.bits .xor .u64 18446744073709551615 (gt xs j : Int) = (wb xs false j : Int) := by
 have h := hf j
 rw [flip_nat _ (by omega) (by omega), Int.toNat_natCast]
 unfold wb
 simp
theorem count_ok (m : Nat) (xs : List Nat) (hf : Fit xs) (hk : chk (m : Int) xs = true) (hl : xs.length = (m + 63) / 64) (j r : Nat) (h0 : 0 < r) (h1 : r ≤ 64) (h2 : 64 * j + r ≤ m) :
  supI (m : Int) xs (j / 8) + subI (m : Int) xs j + rankI (gt xs j : Int) (r : Int) = (cntB xs (64 * j + r) : Int) := by
 have a := onesI_ok m xs hk (64 * j) (by omega)
 have b := cntB_word xs j r h1
 unfold subI rankI
 rw [show (64 * (j : Int)) = ((64 * j : Nat) : Int) by omega, a, b, Int.toNat_natCast, Int.toNat_natCast, show min r 64 = r by omega]
 omega
theorem pchk_nat (N : Int) (xs : List Nat) (su sb : List Int) (h : pchk N xs su sb = true) : ∃ m : Nat, N = (m : Int) ∧ m ≤ 1048576 ∧ xs.length = (m + 63) / 64 ∧ chk (m : Int) xs = true ∧ su = supL (m : Int) xs ∧ sb = subL (m : Int) xs := by
 obtain ⟨a, b, c⟩ := pchk_out N xs su sb h
 obtain ⟨m, rfl, h1, h2⟩ := chk_len N xs a
 exact ⟨m, rfl, h1, h2, a, b, c⟩
end Bit
end Go.Proofs.YtfnkklkdajlhlaaGreatDoor
namespace Go.Proofs.YtfnkklkdajlhlaaGreatDoor
open Go.RowKit Num Bit
theorem groups_c (m : Nat) (hm : m ≤ 1048576) (ao : Option Addr) (n cap : Nat) (w : World) :
  Calls Tryz.prog 94 #[.agg #[.int .i64 m, .slice ao n cap]] w fun e w' => e = .returned (.int .i64 ((m / 512 + 1 : Nat) : Int)) ∧ Below w.heap.size w w' := by
 go_enter Tryz.func94, Tryz.ntmps94
 go_wp2
 go_ret
 exact ⟨ret_int (by omega), below_alloc w _⟩
theorem ret_slice {a : Option Addr} {n k c : Nat} (h : n = k) : Ending.returned (.slice a n c) = .returned (.slice a k c) := by rw [h]
theorem wd_grp {w w' : World} {b off : Nat} {xs : List Nat} (hb : b < w.heap.size) (hcc : ∀ i, i < xs.length → w.cell? ⟨b, off + i, none⟩ = some (.int .u64 (gt xs i))) (hw : Below w.heap.size w w') (g : Nat) : Wd w' (some ⟨b, off + 8 * g, none⟩) (grp xs g) := by
 intro h0
 refine ⟨b, off + 8 * g, rfl, Nat.lt_of_lt_of_le hb hw.size, fun i hi => ?_⟩
 rw [length_grp] at hi
 rw [gt_grp xs g i (by omega), hw.cell (p := ⟨b, off + 8 * g + i, none⟩) hb, Nat.add_assoc]
 exact hcc _ (by omega)
theorem wd_nil (w : World) (bo : Option Addr) {xs : List Nat} (h : xs.length = 0) : Wd w bo xs := fun h0 => absurd h0 (by omega)
def WOut (xs : List Nat) (g : Nat) (w : World) (e : Ending) (w' : World) : Prop := ∃ bo bc, e = .returned (.slice bo (grp xs g).length bc) ∧ Wd w' bo (grp xs g) ∧ Below w.heap.size w w'
theorem wout0 {xs : List Nat} {g n : Nat} {w w' : World} {e : Ending} {bo : Option Addr} {k bc : Nat} (hn : Hid (n = xs.length)) (hw : Below w.heap.size w w') (he : e = .returned (.slice bo k bc)) (h8 : n ≤ 8 * g) (hk : k = 0) : WOut xs g w e w' := by
 have h0 : (grp xs g).length = 0 := by rw [length_grp]; have := hn.out; omega
 subst he hk
 exact ⟨bo, bc, ret_slice h0.symm, wd_nil _ _ h0, hw⟩
theorem wout1 {xs : List Nat} {g n : Nat} {w w' : World} {e : Ending} {b off : Nat} {k bc : Nat} (hn : Hid (n = xs.length)) (hx : Hid (Wd w (some ⟨b, off, none⟩) xs)) (hw : Below w.heap.size w w') (o2 : Nat) (he : e = .returned (.slice (some ⟨b, o2, none⟩) k bc)) (h8 : 8 * g < n) (ho : o2 = off + 8 * g) (hk : k = min (8 * g + 8) n - 8 * g) : WOut xs g w e w' := by
 have h0 : (grp xs g).length = k := by rw [length_grp]; have := hn.out; omega
 obtain ⟨b', off', e2, hb, hcc⟩ := hx.out (by have := hn.out; omega)
 simp only [Option.some.injEq, Addr.mk.injEq] at e2
 obtain ⟨rfl, rfl, _⟩ := e2
 subst he ho
 exact ⟨_, bc, ret_slice h0.symm, wd_grp hb hcc hw g, hw⟩
theorem wordsOf_o (m : Nat) (hm : m ≤ 1048576) (ao : Option Addr) (xs : List Nat) (cap n g : Nat) (HN : Hid (n = xs.length)) (l1 : 8 * g ≤ n) (l2 : n ≤ 16384) (hcap : n ≤ cap) (w : World) (HX : Hid (Wd w ao xs)) :
  Calls Tryz.prog 95 #[.agg #[.int .i64 m, .slice ao n cap], .int .i64 g] w (WOut xs g w) := by
 by_cases h8 : n = 8 * g
 ·have d1 : (n : Int) < ((g : Int) + 1) * 8 := by omega
  cases ao with
  | none =>
   go_enter Tryz.func95, Tryz.ntmps95
   go_wp2
   all_goals go_ret
   all_goals exact wout0 HN (below_alloc w _) rfl (by omega) (by omega)
  | some a =>
   go_enter Tryz.func95, Tryz.ntmps95
   go_wp2
   all_goals go_ret
   all_goals exact wout0 HN (below_alloc w _) rfl (by omega) (by omega)
 ·obtain ⟨b, off, rfl, hb, hcc⟩ := HX.out (by have := HN.out; omega)
  clear hcc hb
  have h8' : 8 * g < n := by omega
  have h9 : 8 * g < cap := by omega
  by_cases h10 : n < 8 * g + 8
  ·have d1 : (n : Int) < ((g : Int) + 1) * 8 := by omega
   go_enter Tryz.func95, Tryz.ntmps95
   go_wp2
   all_goals go_ret
   all_goals exact wout1 HN HX (below_alloc w _) _ rfl (by omega) (by omega) (by omega)
  ·have d1 : ¬ (n : Int) < ((g : Int) + 1) * 8 := by omega
   have d2 : ((g : Int) + 1) * 8 ≤ (n : Int) := by omega
   go_enter Tryz.func95, Tryz.ntmps95
   go_wp2
   all_goals go_ret
   all_goals exact wout1 HN HX (below_alloc w _) _ rfl (by omega) (by omega) (by omega)
theorem wordsOf_c (m : Nat) (hm : m ≤ 1048576) (ao : Option Addr) (xs : List Nat) (cap : Nat) (hl : xs.length = (m + 63) / 64) (hcap : xs.length ≤ cap) (g : Nat) (hg : g ≤ m / 512) (w : World) (hx : Wd w ao xs) :
  Calls Tryz.prog 95 #[.agg #[.int .i64 m, .slice ao xs.length cap], .int .i64 g] w fun e w' => ∃ bo bc, e = .returned (.slice bo (grp xs g).length bc) ∧ Wd w' bo (grp xs g) ∧ Below w.heap.size w w' :=
 wordsOf_o m hm ao xs cap xs.length g rfl (by omega) (by omega) hcap w hx
theorem info_arr : (Tryz.prog.info? 142).map (fun i => (i.zero, i.size)) = some (some (.agg (iv (List.replicate 8 0)).toArray), 8) := by kernel_rfl
theorem arr_size (l : List Int) (h : l.length = 8) : (Tryz.prog.info? 142).map (·.size) = some (iv l).toArray.size := by
 rw [(zero_of_info info_arr).2, List.size_toArray, length_iv, h]
theorem one_iv (l : List Int) : (iv l).toArray.all (·.oneCell') = true := by
 rw [List.all_toArray, List.all_eq_true]
 intro v hv
 obtain ⟨a, _, rfl⟩ := List.mem_map.1 hv
 rfl
theorem cel_iv {w : World} {g : Nat} {l : List Int} {T : TypeId} (h : Cel w g (iv l) T) (j : Nat) (hj : j < l.length) : w.cell? ⟨g, j, none⟩ = some (.int .i64 (gi l j)) := h.cell j (iv_get l j hj)
theorem cel_iset {w : World} {g : Nat} {l : List Int} {T : TypeId} (h : Cel w g (iv l) T) (j : Nat) (v : Int) : Cel (w.setCell ⟨g, j, none⟩ (.int .i64 v)) g (iv (l.set j v)) T := by
 have := h.set j (.int .i64 v)
 rwa [show (iv l).set j (.int .i64 v) = iv (l.set j v) by simp [iv, List.map_set]] at this
theorem alloc_arr {ops : Array Oper} {rest : List Oper} {d : Option Tmp} {ty : TypeId} {ps : String} {af : Array Edge} {a : Act} {w : World} {Q : Exit → Act → World → Prop}
  (h : ∀ w1, Cel w1 w.heap.size (iv (List.replicate 8 0)) 142 → Below w.heap.size w w1 → w.heap.size < w1.heap.size → wpList Tryz.prog ops Q rest (a.put d (.pointer (some ⟨w.heap.size, 0, none⟩))) w1) :
  wpList Tryz.prog ops Q (⟨d, .alloc 142, ty, ps, af, none⟩ :: rest) a w := by
 refine wpList_plain rfl fun K hK => ?_
 unfold Oper.wp execOp
 have z := (zero_of_info info_arr).1
 have nw := h _ (Cel.new w _ _) (below_alloc w _) (by simp)
 refine cast ?_ (hK _ _ nw)
 simp [Instr.alloc, Sem.run_bind, z, newVar, Value.cells, go_sem]
theorem store_arr {ops : Array Oper} {rest : List Oper} {d : Option Tmp} {ty : TypeId} {ps : String} {af : Array Edge} {a : Act} {w : World} {Q : Exit → Act → World → Prop} {x y : Operand}
  (g : Nat) (old ys : List Int) (hx : a.eval x = .pointer (some ⟨g, 0, none⟩)) (hy : a.eval y = .agg (iv ys).toArray) (hc : Cel w g (iv old) 142) (lo : old.length = 8) (ly : ys.length = 8)
  (h : ∀ w1, Cel w1 g (iv ys) 142 → Only g w w1 → wpList Tryz.prog ops Q rest (a.put d undef) w1) :
  wpList Tryz.prog ops Q (⟨d, .store 142 x y, ty, ps, af, none⟩ :: rest) a w :=
 wpList_store_row rfl _ x y rfl g _ hx hy _ _ hc (arr_size ys ly) (by simp [length_iv, lo, ly]) (one_iv ys) (h _ (setRow_heap w g _ _ _ _ hc) (Only.row g w _))
theorem load_arr {ops : Array Oper} {rest : List Oper} {d : Option Tmp} {ty : TypeId} {ps : String} {af : Array Edge} {a : Act} {w : World} {Q : Exit → Act → World → Prop} {x : Operand}
  (g : Nat) (ys : List Int) (hx : a.eval x = .pointer (some ⟨g, 0, none⟩)) (hc : Cel w g (iv ys) 142) (ly : ys.length = 8)
  (h : wpList Tryz.prog ops Q rest (a.put d (.agg (iv ys).toArray)) w) :
  wpList Tryz.prog ops Q (⟨d, .load 142 x, ty, ps, af, none⟩ :: rest) a w :=
 wpList_load_row rfl _ x rfl g hx _ _ _ _ hc Tryz.underlying142 rfl (arr_size ys ly) h
theorem result_arr {fn : Func} {p : Tmp} {w : World} {tmps : Array Value} {u : Tmp} (h : fn.results = #[.cell p 142, .tmp u]) (g : Nat) (ys : List Int) (ly : ys.length = 8) (hp : tmps.getD p undef = .pointer (some ⟨g, 0, none⟩)) (hc : Cel w g (iv ys) 142) :
  (results fn tmps).run Tryz.prog w = .ok (.tuple #[.agg (iv ys).toArray, tmps.getD u undef]) w := by
 have hp' : tmps[p]?.getD undef = .pointer (some ⟨g, 0, none⟩) := by simpa using hp
 have hl := run_loadVar_row (P := Tryz.prog) w g 142 142 (iv ys).toArray (0, 0) _ hc Tryz.underlying142 rfl (arr_size ys ly)
 simp [results, h, hp', asAddr, hl]
theorem counted_c (ao : Option Addr) (ws : List Nat) (cap : Nat) (w : World) (hx : Wd w ao ws) (hf : Fit ws) (hl : ws.length ≤ 8) :
  Calls Tryz.prog 96 #[.slice ao ws.length cap] w fun e w' => e = .returned (.tuple #[.agg (iv (ahd ws)).toArray, .int .i64 (cntB ws (64 * ws.length) : Nat)]) ∧ Below w.heap.size w w' := by
 go_enter Tryz.func96, Tryz.ntmps96
 go_wp2_with (refine alloc_arr ?_)
 intro w1 hc1 hb1 hs1
 go_wp2_with (refine alloc_arr ?_)
 intro w2 hc2 hb2 hs2
 have hA : Below w.heap.size w w2 := hb1.trans (hb2.mono (by omega))
 have hR := hc1.kept hb2
 have hlt : w.heap.size < w1.heap.size := hs1
 clear hc1 hb1 hs1 hb2 hs2
 generalize w1.heap.size = g at *
 simp only [Act.put, yq3, List.set]
 go_wp2
 go_loopw [5, 9] (fun t s wr => ∃ q : Nat, q ≤ ws.length ∧ s = .int .i64 q ∧ t = .int .i64 (cntB ws (64 * q) : Nat) ∧ Cel wr g (iv (ahP ws q)) 142 ∧ Cel wr w.heap.size (iv (List.replicate 8 0)) 142 ∧ Below w.heap.size w wr) (fun _ s _ => ws.length - (intOf s).toNat)
 case atStart => exact ⟨0, Nat.zero_le _, rfl, rfl, by rw [ahP_zero]; exact hc2, hR, hA⟩
 case round =>
  obtain ⟨q, hq, rfl, rfl, hc, hr, hb⟩ := hrel
  clear hc2 hR hA
  by_cases hi : q < ws.length
  ·have hi2 : (q : Int) < (ws.length : Int) := by omega
   have hi3 : (q : Int) < 8 := by omega
   obtain ⟨b, off, rfl, hbl, hcc⟩ := hx (by omega)
   have e1 := cel_iv hc q (by rw [length_ahP]; omega)
   have fz := hc.frozen q
   have st := cel_iset hc q (cntB ws (64 * q) : Nat)
   rw [ahP_step ws q (by omega)] at st
   have hr2 := hr.other (a := ⟨g, q, none⟩) (by show w.heap.size ≠ g; omega) (.int .i64 (cntB ws (64 * q) : Nat))
   have hb2 : Below w.heap.size w (wr.setCell ⟨g, q, none⟩ (.int .i64 (cntB ws (64 * q) : Nat))) := hb.setCell (by show w.heap.size ≤ g; omega) _
   have e2 := (hb2.cell (p := ⟨b, off + q, none⟩) hbl).trans (hcc q hi)
   have bd := cntB_le ws (64 * q)
   have stp := cntB_step ws q
   have hfq := hf q
   have hp : Hid (popI (gt ws q : Int) = ((cnt (gt ws q) 64 : Nat) : Int)) := by show popI (gt ws q : Int) = _; unfold popI; rw [Int.toNat_natCast]
   have hc64 := cnt_le (gt ws q) 64
   have C : Hid (∀ w0, Calls Tryz.prog 153 #[.int .u64 (gt ws q : Int)] w0 fun e w' => e = .returned (.int .i64 ((cnt (gt ws q) 64 : Nat) : Int)) ∧ w' = w0) := by
    intro w0
    have := pop_c (gt ws q : Int) (Int.natCast_nonneg _) (Int.ofNat_lt.2 hfq) w0
    rw [hp.out] at this
    exact this
   have HF : Hid (Cel (wr.setCell ⟨g, q, none⟩ (.int .i64 (cntB ws (64 * q) : Nat))) g (iv (ahP ws (q + 1))) 142 ∧ Cel (wr.setCell ⟨g, q, none⟩ (.int .i64 (cntB ws (64 * q) : Nat))) w.heap.size (iv (List.replicate 8 0)) 142 ∧ Below w.heap.size w (wr.setCell ⟨g, q, none⟩ (.int .i64 (cntB ws (64 * q) : Nat)))) := ⟨st, hr2, hb2⟩
   have HS : Hid (cntB ws (64 * (q + 1)) = cntB ws (64 * q) + cnt (gt ws q) 64) := stp
   clear st hr2 hb2 hc hr hb hcc hp stp
   generalize cnt (gt ws q) 64 = D at *
   generalize cntB ws (64 * q) = Z at *
   go_wp2_with fail
   refine (C.out _).mono ?_
   rintro e w4 ⟨rfl, rfl⟩
   go_wp2
   refine ⟨⟨q + 1, by omega, by go_num, ?_, HF.out⟩, by simp only [intOf]; omega⟩
   rw [HS.out]
   go_num
  ·obtain rfl : q = ws.length := by omega
   have HB : Hid (Below w.heap.size w wr) := hb
   clear hb hx
   go_wp2_with (first | refine load_arr g _ rfl hc (length_ahP _ _) ?_ | refine store_arr w.heap.size _ _ rfl rfl hr (by simp) (length_ahP _ _) ?_)
   intro w5 hc5 hb5
   have HC : Hid (Cel w5 w.heap.size (iv (ahd ws)) 142) := hc5
   have HB5 : Hid (Below w.heap.size w w5) := HB.out.trans (hb5.below (Nat.le_refl _))
   clear hc5 hb5 hc hr
   go_wp2
   (try simp only [Exit.inBlock, Exit.then])
   exact bodyPost_ret (result_arr rfl w.heap.size (ahd ws) (length_ahd ws) rfl HC.out) rfl ⟨rfl, HB5.out⟩
theorem alloc_z {ops : Array Oper} {rest : List Oper} {d : Option Tmp} {ty T : TypeId} {ps : String} {af : Array Edge} {a : Act} {w : World} {Q : Exit → Act → World → Prop} (z : List Value)
  (hz : (Tryz.prog.info? T).map (fun i => (i.zero, i.size)) = some (some (.agg z.toArray), z.length))
  (h : ∀ w1, Cel w1 w.heap.size z T → Below w.heap.size w w1 → w.heap.size < w1.heap.size → wpList Tryz.prog ops Q rest (a.put d (.pointer (some ⟨w.heap.size, 0, none⟩))) w1) :
  wpList Tryz.prog ops Q (⟨d, .alloc T, ty, ps, af, none⟩ :: rest) a w := by
 refine wpList_plain rfl fun K hK => ?_
 unfold Oper.wp execOp
 have zz := (zero_of_info hz).1
 have nw := h _ (Cel.new w _ _) (below_alloc w _) (by simp)
 refine cast ?_ (hK _ _ nw)
 simp [Instr.alloc, Sem.run_bind, zz, newVar, Value.cells, go_sem]
theorem info_a128 : (Tryz.prog.info? 136).map (fun i => (i.zero, i.size)) = some (some (.agg (iv (List.replicate 128 0)).toArray), (iv (List.replicate 128 0)).length) := by kernel_rfl
theorem size_a128 (l : List Int) (h : l.length = 128) : (Tryz.prog.info? 136).map (·.size) = some (iv l).length := by
 rw [(zero_of_info info_a128).2, length_iv, length_iv, h]
 rfl
theorem load_a128 {ops : Array Oper} {rest : List Oper} {d : Option Tmp} {ty : TypeId} {ps : String} {af : Array Edge} {a : Act} {w : World} {Q : Exit → Act → World → Prop} {x : Operand}
  (g : Nat) (ys : List Int) (hx : a.eval x = .pointer (some ⟨g, 0, none⟩)) (hc : Cel w g (iv ys) 136) (ly : ys.length = 128)
  (h : wpList Tryz.prog ops Q rest (a.put d (.agg (iv ys).toArray)) w) :
  wpList Tryz.prog ops Q (⟨d, .load 136 x, ty, ps, af, none⟩ :: rest) a w :=
 wpList_load_row rfl _ x rfl g hx _ _ _ _ hc Tryz.underlying136 rfl (by rw [List.size_toArray]; exact size_a128 ys ly) h
theorem result_a128 {fn : Func} {p : Tmp} {w : World} {tmps : Array Value} (h : fn.results = #[.cell p 136]) (g : Nat) (ys : List Int) (ly : ys.length = 128) (hp : tmps.getD p undef = .pointer (some ⟨g, 0, none⟩)) (hc : Cel w g (iv ys) 136) :
  (results fn tmps).run Tryz.prog w = .ok (.agg (iv ys).toArray) w := by
 have hp' : tmps[p]?.getD undef = .pointer (some ⟨g, 0, none⟩) := by simpa using hp
 have hl := run_loadVar_row (P := Tryz.prog) w g 136 136 (iv ys).toArray (0, 0) _ hc Tryz.underlying136 rfl (by rw [List.size_toArray]; exact size_a128 ys ly)
 simp [results, h, hp', asAddr, hl]
def szs (t : List Nat) (l i : Nat) : List Int := (List.range 128).map fun p => (Tw.rk t l p i : Int)
theorem length_szs (t : List Nat) (l i : Nat) : (szs t l i).length = 128 := by simp [szs]
theorem gi_szs (t : List Nat) (l i p : Nat) (h : p < 128) : gi (szs t l i) p = (Tw.rk t l p i : Int) := gi_map _ _ _ h
theorem szs_zero (t : List Nat) (l : Nat) : szs t l 0 = List.replicate 128 0 := rfl
theorem gi_set (l : List Int) (i j : Nat) (v : Int) (h : i < l.length) : gi (l.set i v) j = if i = j then v else gi l j := by
 unfold gi
 rw [List.getD_eq_getElem?_getD, List.getD_eq_getElem?_getD, List.getElem?_set]
 by_cases e : i = j
 ·subst e; simp [h]
 ·simp [e]
theorem szs_step (t : List Nat) (l i p : Nat) (hp : Tw.hi l (gt t i) = p) (h : p < 128) : (szs t l i).set p ((Tw.rk t l p i : Int) + 1) = szs t l (i + 1) := by
 refine gi_ext (by rw [List.length_set, length_szs, length_szs]) fun q hq => ?_
 rw [List.length_set, length_szs] at hq
 rw [gi_set _ _ _ _ (by rw [length_szs]; exact h), gi_szs _ _ _ _ hq, gi_szs _ _ _ _ hq, Tw.rk_succ, hp]
 by_cases e : p = q
 ·subst e; simp
 ·simp [e]
def fst (t : List Nat) (l h : Nat) : List Int := (List.range 128).map fun p => if p ≤ h then (Tw.st t l p : Int) else 0
theorem length_fst (t : List Nat) (l h : Nat) : (fst t l h).length = 128 := by simp [fst]
theorem gi_fst (t : List Nat) (l h p : Nat) (hp : p < 128) : gi (fst t l h) p = if p ≤ h then (Tw.st t l p : Int) else 0 := gi_map _ _ _ hp
theorem fst_zero (t : List Nat) (l : Nat) : fst t l 0 = List.replicate 128 0 := by
 refine gi_ext (by rw [length_fst, List.length_replicate]) fun q hq => ?_
 rw [length_fst] at hq
 rw [gi_fst _ _ _ _ hq]
 have : ∀ n, gi (List.replicate n 0) q = 0 := fun n => by unfold gi; rw [List.getD_eq_getElem?_getD, List.getElem?_replicate]; split <;> rfl
 rw [this]
 split
 ·obtain rfl : q = 0 := by omega
  rw [Tw.st_zero]; rfl
 ·rfl
theorem fst_step (t : List Nat) (l h : Nat) (hh : h + 1 < 128) : (fst t l h).set (h + 1) ((Tw.st t l h : Int) + (Tw.rk t l h t.length : Int)) = fst t l (h + 1) := by
 refine gi_ext (by rw [List.length_set, length_fst, length_fst]) fun q hq => ?_
 rw [List.length_set, length_fst] at hq
 rw [gi_set _ _ _ _ (by rw [length_fst]; exact hh), gi_fst _ _ _ _ hq, gi_fst _ _ _ _ hq]
 by_cases e : h + 1 = q
 ·subst e
  rw [if_pos rfl, if_pos (Nat.le_refl _), Tw.st_succ, Tw.rk_all]
  omega
 ·rw [if_neg e]
  by_cases c : q ≤ h
  ·rw [if_pos c, if_pos (by omega)]
  ·rw [if_neg c, if_neg (by omega)]
theorem hi128 {t : List Nat} (hB : Tw.Byt t) {l : Nat} (hl : l < 8) (i : Nat) : Tw.hi l (gt t i) < 128 := by
 have h1 := Tw.hi_lt (l := l) (by omega) (hB i)
 have h2 : (2 : Nat) ^ l ≤ 2 ^ 7 := Nat.pow_le_pow_right (by decide) (by omega)
 omega
theorem shr8 (c l : Nat) : (c : Int) / 2 ^ (8 - l) = ((Tw.hi l c : Nat) : Int) := by
 unfold Tw.hi
 rw [Int.natCast_ediv]
 simp
theorem starts_c (ao : Option Addr) (t : List Nat) (cap l : Nat) (w : World) (hx : Bd w ao t) (hB : Tw.Byt t) (hl : l < 8) (hn : t.length ≤ 8192) :
  Calls Tryz.prog 90 #[.slice ao t.length cap, .int .i64 l] w fun e w' => e = .returned (.agg (iv (fst t l 127)).toArray) ∧ Below w.heap.size w w' := by
 go_enter Tryz.func90, Tryz.ntmps90
 go_wp2_with (refine alloc_z _ info_a128 ?_)
 intro w1 hc1 hb1 hs1
 go_wp2_with (refine alloc_z _ info_a128 ?_)
 intro w2 hc2 hb2 hs2
 go_wp2_with (refine alloc_z _ info_a128 ?_)
 intro w3 hc3 hb3 hs3
 have hA : Below w.heap.size w w3 := (hb1.trans (hb2.mono (by omega))).trans (hb3.mono (by omega))
 have hR := (hc1.kept hb2).kept hb3
 have hT := hc2.kept hb3
 have l1 : w.heap.size < w1.heap.size := hs1
 have l2 : w1.heap.size < w2.heap.size := hs2
 clear hc1 hb1 hs1 hb2 hs2 hb3 hs3 hc2
 generalize w1.heap.size = g5 at *
 generalize w2.heap.size = g6 at *
 obtain ⟨k, hk⟩ : ∃ k, 8 - l = k := ⟨_, rfl⟩
 have hk2 : IntKind.i64.wrap (8 - (l : Int)) = (k : Int) := by rw [IntKind.wrap_i64]; omega
 simp only [Act.put, yq3, List.set]
 go_wp2
 go_loopw [12] (fun s wr => ∃ q : Nat, q ≤ t.length ∧ s = .int .i64 q ∧ Cel wr g5 (iv (szs t l q)) 136 ∧ Cel wr g6 (iv (List.replicate 128 0)) 136 ∧ Cel wr w.heap.size (iv (List.replicate 128 0)) 136 ∧ Below w.heap.size w wr) (fun s _ => t.length - (intOf s).toNat)
 case atStart => exact ⟨0, Nat.zero_le _, rfl, by rw [szs_zero]; exact hT, hc3, hR, hA⟩
 case round =>
  obtain ⟨q, hq, rfl, h5, h6, h4, hb⟩ := hrel
  clear hT hc3 hR hA
  by_cases hi : q < t.length
  ·have hi2 : (q : Int) < (t.length : Int) := by omega
   obtain ⟨b, off, rfl, hbl, hcc⟩ := hx (by omega)
   have e2 := (hb.cell (p := ⟨b, off + q, none⟩) hbl).trans (hcc q hi)
   have hc := hB q
   have hp := hi128 hB hl q
   have es := shr8 (gt t q) l
   rw [hk] at es
   have e1 := cel_iv h5 (Tw.hi l (gt t q)) (by rw [length_szs]; exact hp)
   rw [gi_szs _ _ _ _ hp] at e1
   have st := cel_iset h5 (Tw.hi l (gt t q)) ((Tw.rk t l (Tw.hi l (gt t q)) q : Int) + 1)
   rw [szs_step t l q _ rfl hp] at st
   have fz := h5.frozen (Tw.hi l (gt t q))
   have bd := Tw.rk_le t l (Tw.hi l (gt t q)) q
   generalize Tw.rk t l (Tw.hi l (gt t q)) q = Z at *
   generalize Tw.hi l (gt t q) = P at *
   have h6' := h6.other (a := ⟨g5, P, none⟩) (by show g6 ≠ g5; omega) (.int .i64 ((Z : Int) + 1))
   have h4' := h4.other (a := ⟨g5, P, none⟩) (by show w.heap.size ≠ g5; omega) (.int .i64 ((Z : Int) + 1))
   have hb' : Below w.heap.size w (wr.setCell ⟨g5, P, none⟩ (.int .i64 ((Z : Int) + 1))) := hb.setCell (by show w.heap.size ≤ g5; omega) _
   have HF := Hid.mkt (And.intro st (And.intro h6' (And.intro h4' hb')))
   clear st h6' h4' hb' h5 h6 h4 hb hcc hx
   generalize gt t q = C at *
   have hC2 : (C : Int) < 256 := by omega
   have hP2 : (P : Int) < 128 := by omega
   have hk0 : (0 : Int) ≤ (k : Int) := by omega
   have hk8 : (k : Int) ≤ 8 := by omega
   clear hk
   go_wp2
   exact ⟨⟨q + 1, by omega, by go_num, HF.out⟩, by simp only [intOf]; omega⟩
  ·obtain rfl : q = t.length := by omega
   clear hx hi
   have hst := fun p => Tw.st_le t l p
   have hrk := fun p => Tw.rk_le t l p t.length
   go_wp2
   go_loopw [25] (fun s wr => ∃ h : Nat, h ≤ 127 ∧ s = .int .i64 h ∧ Cel wr g6 (iv (fst t l h)) 136 ∧ Cel wr g5 (iv (szs t l t.length)) 136 ∧ Cel wr w.heap.size (iv (List.replicate 128 0)) 136 ∧ Below w.heap.size w wr) (fun s _ => 127 - (intOf s).toNat)
   case atStart => exact ⟨0, Nat.zero_le _, rfl, by rw [fst_zero]; exact h6, h5, h4, hb⟩
   case round =>
    obtain ⟨h, hh, rfl, j6, j5, j4, jb⟩ := hrel
    clear h6 h5 h4 hb
    by_cases hi : h < 127
    ·have hi2 : (h : Int) < 127 := by omega
     have b1 := hst h
     have b2 := hrk h
     have S6 := cel_iset j6 (h + 1) ((Tw.st t l h : Int) + (Tw.rk t l h t.length : Int))
     rw [fst_step t l h (by omega)] at S6
     clear hst hrk
     have hi3 : (h : Int) < 128 := by omega
     have hi4 : ((h + 1 : Nat) : Int) < 128 := by omega
     have hi5 : (h : Int) + 1 < 128 := by omega
     have hi6 : (0 : Int) ≤ (h : Int) + 1 := by omega
     have m1 : IntKind.i64.wrap ((h : Int) + 1) = ((h + 1 : Nat) : Int) := by rw [IntKind.wrap_i64]; omega
     go_wp2
     refine region_g [10] (fun w' => Cel w' g6 (iv (fst t l h)) 136 ∧ Cel w' g5 (iv (szs t l t.length)) 136) (by kernel_rfl) ?_
     have hS : Cel wr.drew g6 (iv (fst t l h)) 136 ∧ Cel wr.drew g5 (iv (szs t l t.length)) 136 := ⟨j6, j5⟩
     have S5 := j5.drew.other (a := ⟨g6, h + 1, none⟩) (by show g5 ≠ g6; omega) (.int .i64 ((Tw.st t l h : Int) + (Tw.rk t l h t.length : Int)))
     have S4 := j4.drew.other (a := ⟨g6, h + 1, none⟩) (by show w.heap.size ≠ g6; omega) (.int .i64 ((Tw.st t l h : Int) + (Tw.rk t l h t.length : Int)))
     have Sb : Below w.heap.size w (wr.drew.setCell ⟨g6, h + 1, none⟩ (.int .i64 ((Tw.st t l h : Int) + (Tw.rk t l h t.length : Int)))) := jb.drew.setCell (by show w.heap.size ≤ g6; omega) _
     replace S6 : Cel (wr.drew.setCell ⟨g6, h + 1, none⟩ (.int .i64 ((Tw.st t l h : Int) + (Tw.rk t l h t.length : Int)))) g6 (iv (fst t l (h + 1))) 136 := S6
     generalize wr.drew = V at *
     have HF := Hid.mkt (And.intro S6 (And.intro S5 (And.intro S4 Sb)))
     clear S6 S5 S4 Sb j6 j5 j4 jb
     refine AnyG.tk 0 hS ?_
     refine AnyG.tk 1 hS ?_
     refine AnyG.tk 2 hS ?_
     refine AnyG.tk 3 hS ?_
     refine AnyG.tf 4 hS rfl (fun w0 h0 => by have c6 := cel_iv h0.1 h (by rw [length_fst]; omega); rw [gi_fst _ _ _ _ (by omega), if_pos (Nat.le_refl _)] at c6; go_simp; try with_reducible rfl) ?_
     refine AnyG.tk 5 hS ?_
     refine AnyG.tk 6 hS ?_
     refine AnyG.tf 7 hS rfl (fun w0 h0 => by have c5 := cel_iv h0.2 h (by rw [length_szs]; omega); rw [gi_szs _ _ _ _ (by omega)] at c5; go_simp; try with_reducible rfl) ?_
     refine AnyG.tk 8 hS ?_
     refine AnyG.tk 9 hS ?_
     refine AnyG.o1 10 ?_
     intro K hK
     have z6 := cel_iv hS.1 (h + 1) (by rw [length_fst]; omega)
     rw [gi_fst _ _ _ _ (by omega), if_neg (by omega)] at z6
     have fz6 := hS.1.frozen (h + 1)
     go_simp
     refine hK.out _ _ (fun h => absurd (by decide) h) ?_
     clear hK K
     try simp only [Act.put, yq0, yq1, yq2, yq3, yq4, yq5]
     refine AnyG.done (by kernel_rfl) ?_ _
     clear hS z6 fz6
     go_wp2
     exact ⟨⟨h + 1, by omega, by go_num, HF.out⟩, by simp only [intOf]; omega⟩
    ·obtain rfl : h = 127 := by omega
     clear hst hrk hi
     go_wp2_with (first | refine load_a128 g6 _ rfl j6 (length_fst _ _ _) ?_ | refine store_cel w.heap.size _ _ rfl rfl j4 (by simp [length_iv, length_fst]) (size_a128 _ (length_fst _ _ _)) (one_iv _) ?_)
     intro w5 hc5 hb5
     have HC := Hid.mkt (And.intro hc5 (jb.trans (hb5.below (Nat.le_refl _))))
     clear hc5 hb5 j6 j5 j4 jb
     go_wp2
     (try simp only [Exit.inBlock, Exit.then])
     exact bodyPost_ret (result_a128 rfl w.heap.size _ (length_fst _ _ _) rfl HC.out.1) rfl ⟨rfl, HC.out.2⟩
theorem count_t {P : RA → Prop} (V : VR P) (cs : List Value) (a : RA) (bit : Bool) (n i : Nat) (w : World) (h : KI w cs a) (ok : kOk a = true) (hn : kBN a = n) (hi : i ≤ n) (hb : n ≤ 1048576) (hp : P a) :
  Calls Tryz.prog 35 #[.agg cs.toArray, .bool bit, .int .i64 i] w fun e w' => e = .returned (.int .i64 (cB (kBX a) bit i : Nat)) ∧ Below w.heap.size w w' := by
 have H : Hid (∀ w0, Below w.heap.size w w0 → Calls Tryz.prog 66 #[.agg cs.toArray, .bool bit, .int .i64 i] w0 fun e w' => e = .returned (.tuple #[.int .i64 (cB (kBX a) bit i : Nat), .int .i64 0]) ∧ Below w0.heap.size w0 w') := fun w0 hb => by
  have := V.rank cs a bit i w0 (h.keep hb) hp ⟨by omega, by omega⟩
  have e1 : grE (kOk a) (kBN a) i = 0 := by unfold grE; rw [ok, hn, if_pos rfl, if_neg (by omega)]
  unfold grN at this
  rw [e1, if_pos rfl, Int.toNat_natCast] at this
  exact this
 obtain ⟨W, hW⟩ : ∃ W, W = w.alloc (.cells cs.toArray 45) := ⟨_, rfl⟩
 have B0 := yc1 hW
 have bW := yb1 hW
 have HL := Hid.mk8 h.arg.len
 generalize cB (kBX a) bit i = Z at *
 clear h ok hn
 subst hW
 go_enter Tryz.func35, Tryz.ntmps35
 go_wp2_with (refine load_obj w.heap.size _ (by rfl) rfl B0 Tryz.underlying45 HL.out ?_)
 refine (H.out _ bW).mono ?_
 rintro e w1 ⟨rfl, hb⟩
 replace bW := bW.trans (hb.mono bW.size)
 clear hb B0
 go_wp2
 go_ret
 exact ⟨rfl, bW⟩
theorem len_sum (a : RA) (ok : kOk a = true) : a.p.N + a.r.N + a.f.N = kBN a ∧ 0 ≤ a.p.N ∧ 0 ≤ a.r.N ∧ 0 ≤ a.f.N := by
 have nn := (chk_out _ _ (kB_chk a ok)).1
 have kz : kZs a = true := by
  cases h : kZs a with
  | true => rfl
  | false =>
   have e : kOn a = 0 := by unfold kOn; rw [h]; rfl
   rw [(on_n (by omega) (by omega) (by omega)).1] at ok
   cases ok
 have ek : kOn a = a.K := by unfold kOn; rw [if_pos kz]
 have z7n : z7 a.p = true → a.p.N = 0 := fun h => by unfold z7 norw at h; simp at h; exact h.1.1
 have z8n : z8 a.r = true → a.r.N = 0 := fun h => by unfold z8 at h; simp at h; exact h.1
 have z9n : z9 a.f = true → a.f.N = 0 := fun h => by unfold z9 at h; simp at h; exact h.1
 unfold kZs at kz
 simp only [Bool.and_eq_true, Bool.or_eq_true, decide_eq_true_eq] at kz
 obtain ⟨k1, k2, k3⟩ := kz
 by_cases h1 : kOn a = 1
 ·obtain ⟨e1, e2, _, _⟩ := on_p h1
  have q2 := z8n (k2.resolve_left (by omega))
  have q3 := z9n (k3.resolve_left (by omega))
  have : kBN7 a.p = a.p.N := by unfold kBN7 piN; rw [if_pos (show pchk a.p.N a.p.xs a.p.S a.p.T = true from e1.symm.trans ok)]
  omega
 by_cases h2 : kOn a = 2
 ·obtain ⟨e1, e2, _, _⟩ := on_r h2
  have q2 := z7n (k1.resolve_left (by omega))
  have q3 := z9n (k3.resolve_left (by omega))
  have : kBN8 a.r = a.r.N := by
   have hr : rOk a.r.N a.r.k a.r.V a.r.M a.r.xs a.r.L a.r.ys a.r.S a.r.T = true := e1.symm.trans ok
   obtain ⟨_, _, _, g4⟩ := rOk_out _ _ _ _ _ _ _ _ _ hr
   obtain ⟨g1, _⟩ := rEq_out _ _ _ _ _ _ _ _ _ _ _ g4
   unfold kBN8 rBN
   rw [if_pos hr]
   exact g1.symm
  omega
 by_cases h3 : kOn a = 3
 ·obtain ⟨e1, e2, _, _⟩ := on_f h3
  have q2 := z7n (k1.resolve_left (by omega))
  have q3 := z8n (k2.resolve_left (by omega))
  have : kBN9 a.f = a.f.N := by
   unfold kBN9
   rw [if_pos (e1.symm.trans ok)]
  omega
 rw [(on_n h1 h2 h3).1] at ok
 cases ok
theorem length_t (cs : List Value) (a : RA) (w : World) (h : KI w cs a) (ok : kOk a = true) :
  Calls Tryz.prog 48 #[.agg cs.toArray] w fun e w' => e = .returned (.int .i64 (kBN a)) ∧ Below w.heap.size w w' := by
 obtain ⟨e, p0, p1, p2⟩ := len_sum a ok
 obtain ⟨n0, n1, _⟩ := chk_out _ _ (kB_chk a ok)
 obtain ⟨cp, cr, cf, rfl, _, h1, h2, h3⟩ := h.arg
 obtain ⟨ao, cap, so, sc, tO, tc, rfl, g1⟩ := h1
 obtain ⟨bo, dap, qo, eap, uo, uc, vO, vc, rfl, g2⟩ := h2
 obtain ⟨fo, fap, ho, hap, rfl, g3⟩ := h3
 have bw := below_alloc w (.cells (Value.int .i64 a.K :: ([.int .i64 a.p.N, .slice ao a.p.xs.length cap, .slice so a.p.S.length sc, .slice tO a.p.T.length tc] ++ ([.int .i64 a.r.N, .int .i64 a.r.k, .int .i64 a.r.V, .int .i64 a.r.M, .slice bo a.r.xs.length dap, .int .i64 a.r.L, .slice qo a.r.ys.length eap, .slice uo a.r.S.length uc, .slice vO a.r.T.length vc] ++ [.int .i64 a.f.N, .int .i64 a.f.M, .int .i64 a.f.k, .int .i64 a.f.V, .int .i64 a.f.LM, .slice fo a.f.xs.length fap, .int .i64 a.f.H, .slice ho a.f.ys.length hap]))).toArray 45)
 clear g1 g2 g3 h
 generalize a.p.N = A at *
 generalize a.r.N = B at *
 generalize a.f.N = C at *
 generalize kBN a = M at *
 have hAB : IntKind.i64.wrap (A + B) = A + B := by rw [IntKind.wrap_i64]; omega
 have hABC : IntKind.i64.wrap (A + B + C) = M := by rw [IntKind.wrap_i64]; omega
 have HE := Hid.mkt e
 clear e
 go_enter Tryz.func48, Tryz.ntmps48
 go_wp2
 go_ret
 exact ⟨rfl, bw⟩
structure TR where
 K : Int
 N : Int
 av : List RA
def ra0 : RA := ⟨0, n7, n8, n9⟩
def lw (x : TR) (l : Nat) : RA := x.av.getD l ra0
def Lv (w : World) (lo : Option Addr) (av : List RA) : Prop :=
 0 < av.length → ∃ b off, lo = some ⟨b, off, none⟩ ∧ b < w.heap.size ∧ ∀ l, l < av.length → ∃ cs, w.rangeAt b (off + l * 22) cs ∧ KI w cs (av.getD l ra0)
theorem range_keep {w w' : World} {b o base : Nat} {cs : List Value} (h : w.rangeAt b o cs) (hb : Below base w w') (hl : b < base) : w'.rangeAt b o cs := fun j v hv => (hb.cell (p := ⟨b, o + j, none⟩) hl).trans (h j v hv)
theorem Lv.keep {w w' : World} {lo : Option Addr} {av : List RA} (h : Lv w lo av) (hb : Below w.heap.size w w') : Lv w' lo av := by
 intro h0
 obtain ⟨b, off, e, hlt, hc⟩ := h h0
 refine ⟨b, off, e, Nat.lt_of_lt_of_le hlt hb.size, fun l hl => ?_⟩
 obtain ⟨cs, h1, h2⟩ := hc l hl
 exact ⟨cs, range_keep h1 hb hlt, h2.keep hb⟩
structure TI (w : World) (lo : Option Addr) (cap : Nat) (x : TR) : Prop where
 k : I64 x.K
 n : I64 x.N
 c : x.av.length ≤ cap
 l : Lv w lo x.av
 gv : GV w
theorem TI.keep {w w' : World} {lo : Option Addr} {cap : Nat} {x : TR} (h : TI w lo cap x) (hb : Below w.heap.size w w') : TI w' lo cap x := ⟨h.k, h.n, h.c, h.l.keep hb, h.gv.keep hb⟩
def lOk (x : TR) (l : Nat) : Bool := decide ((lw x l).K = x.K) && (kOk (lw x l) && decide (kBN (lw x l) = x.N))
def tOk (x : TR) : Bool := decide (x.N ≤ 8192) && (decide (x.av.length = 8) && (List.range 8).all (lOk x))
theorem tOk_out (x : TR) (h : tOk x = true) : x.N ≤ 8192 ∧ x.av.length = 8 ∧ ∀ l, l < 8 → (lw x l).K = x.K ∧ kOk (lw x l) = true ∧ kBN (lw x l) = x.N := by
 unfold tOk at h
 simp only [Bool.and_eq_true, decide_eq_true_eq, List.all_eq_true] at h
 refine ⟨h.1, h.2.1, fun l hl => ?_⟩
 have := h.2.2 l (List.mem_range.2 hl)
 unfold lOk at this
 simp only [Bool.and_eq_true, decide_eq_true_eq] at this
 exact this
theorem tOk_nat (x : TR) (h : tOk x = true) : ∃ n : Nat, x.N = n ∧ n ≤ 8192 := by
 obtain ⟨h1, h2, h3⟩ := tOk_out x h
 obtain ⟨_, h5, h6⟩ := h3 0 (by omega)
 obtain ⟨h0, _⟩ := chk_out _ _ (kB_chk _ h5)
 exact ⟨x.N.toNat, by omega, by omega⟩
theorem tOk_no {x : TR} (l : Nat) (hl : l < 8) (h : lOk x l = false) : tOk x = false := by
 refine Bool.eq_false_iff.2 fun e => ?_
 unfold tOk at e
 simp only [Bool.and_eq_true, List.all_eq_true] at e
 rw [e.2.2 l (List.mem_range.2 hl)] at h
 cases h
theorem tOk_yes {x : TR} (h1 : x.N ≤ 8192) (h2 : x.av.length = 8) (h : ∀ l, l < 8 → lOk x l = true) : tOk x = true := by
 unfold tOk
 simp only [Bool.and_eq_true, decide_eq_true_eq, List.all_eq_true]
 exact ⟨h1, h2, fun l hl => h l (List.mem_range.1 hl)⟩
theorem run_load_part {T : TypeId} {w : World} {x : Operand} {ρ : Operand → Value} {d : Option Tmp} {ty : TypeId} {ps : String} {af : Array Edge} {gd : Option (Nat × Bool)}
  (g o : Nat) (cs : List Value) {fs : Array Field} (hx : ρ x = .pointer (some ⟨g, o, none⟩)) (hc : w.rangeAt g o cs) (hu : Tryz.prog.underlying T = some (.struct fs)) (hi : (Tryz.prog.info? T).map (·.size) = some cs.length) :
  (execOp ρ (⟨d, .load T x, ty, ps, af, gd⟩ : Oper)).run Tryz.prog w = .ok (.value (.agg cs.toArray)) w := by
 have hl := run_loadVar_mid (P := Tryz.prog) w g o T cs _ hc hu rfl hi
 unfold execOp
 simp only [hx, Instr.loadAt, Instr.sureAddr, Sem.run_bind, Sem.run_pure, Result.andThen_ok, hl]
theorem KArg.head {w : World} {cs : List Value} {a : RA} (h : KArg w cs a) : cs[0]? = some (.int .i64 a.K) := by
 obtain ⟨cp, cr, cf, rfl, _⟩ := h
 rfl
def zv : List Value := [.int .i64 0, .int .i64 0, .slice none 0 0, .slice none 0 0, .slice none 0 0, .int .i64 0, .int .i64 0, .int .i64 0, .int .i64 0, .slice none 0 0, .int .i64 0, .slice none 0 0, .slice none 0 0, .slice none 0 0, .int .i64 0, .int .i64 0, .int .i64 0, .int .i64 0, .int .i64 0, .slice none 0 0, .int .i64 0, .slice none 0 0]
theorem info_zv : (Tryz.prog.info? 45).map (fun i => (i.zero, i.size)) = some (some (.agg zv.toArray), zv.length) := by kernel_rfl
theorem len_zv : zv.length = 22 := rfl
theorem check_t {P : RA → Prop} (U : VC P) (lo : Option Addr) (cap : Nat) (x : TR) (w : World) (h : TI w lo cap x) (hp : ∀ l, l < x.av.length → P (lw x l)) :
  Calls Tryz.prog 23 #[.agg #[.int .i64 x.K, .int .i64 x.N, .slice lo x.av.length cap]] w fun e w' => e = .returned (.bool (tOk x)) ∧ Below w.heap.size w w' := by
 have HPP := Hid.mkt hp
 clear hp
 obtain ⟨Z, hZ⟩ : ∃ Z, Hid (Z = tOk x) := ⟨_, rfl⟩
 rw [← hZ.out]
 have HI := Hid.mkt h
 obtain ⟨K, hK⟩ : ∃ K, Hid (K = x.K) := ⟨_, rfl⟩
 obtain ⟨N, hN⟩ : ∃ N, Hid (N = x.N) := ⟨_, rfl⟩
 obtain ⟨m, hm⟩ : ∃ m, Hid (m = x.av.length) := ⟨_, rfl⟩
 rw [← hK.out, ← hN.out, ← hm.out]
 have bx := Cel.new w [.int .i64 K, .int .i64 N, .slice lo m cap] 26
 have bw := below_alloc w (.cells #[.int .i64 K, .int .i64 N, .slice lo m cap] 26)
 by_cases q1 : N ≤ 8192
 rotate_left
 ·have E : Hid (Z = false) := by
   show Z = _
   rw [hZ.out]
   unfold tOk
   rw [decide_eq_false (by rw [← hN.out]; exact q1)]
   rfl
  have q2 : (8192 : Int) < N := by omega
  clear h
  go_enter Tryz.func23, Tryz.ntmps23
  go_wp2
  go_ret
  rw [E.out]
  exact ⟨rfl, bw⟩
 have q1' : ¬ (8192 : Int) < N := by omega
 by_cases q2 : m = 8
 rotate_left
 ·have E : Hid (Z = false) := by
   show Z = _
   rw [hZ.out]
   unfold tOk
   rw [show decide (x.av.length = 8) = false from decide_eq_false (by rw [← hm.out]; exact q2)]
   simp
  have q3 : ((m : Int) != 8) = true := by simp; omega
  clear h
  go_enter Tryz.func23, Tryz.ntmps23
  go_wp2
  go_ret
  rw [E.out]
  exact ⟨rfl, bw⟩
 subst q2
 have hk := h.k
 have hn := h.n
 rw [← hK.out] at hk
 rw [← hN.out] at hn
 clear h
 obtain ⟨b, off, rfl, hbl, hrows⟩ := HI.out.l (by rw [← hm.out]; decide)
 have HR := Hid.mkt hrows
 clear hrows
 go_enter Tryz.func23, Tryz.ntmps23
 go_wp2
 go_loopw [14] (fun s wr => ∃ q : Nat, q ≤ 8 ∧ s = .int .i64 q ∧ Hid (∀ l, l < q → lOk x l = true) ∧ Cel wr w.heap.size [.int .i64 K, .int .i64 N, .slice (some ⟨b, off, none⟩) 8 cap] 26 ∧ Below w.heap.size w wr) (fun s _ => 8 - (intOf s).toNat)
 case atStart => exact ⟨0, Nat.zero_le _, rfl, fun l hl => absurd hl (by omega), bx, bw⟩
 case round =>
  obtain ⟨q, hq, rfl, HA, hx, hb⟩ := hrel
  clear bx bw
  by_cases hi : q < 8
  ·have hi2 : (q : Int) < 8 := by omega
   obtain ⟨cs, hr0, hk0⟩ := HR.out q (by rw [← hm.out]; exact hi)
   have hrg := range_keep hr0 hb hbl
   have hh := Hid.mkt hk0.arg.head
   have HL := Hid.mkt hk0.arg.len
   have H1 := Hid.mkt hk0.arg.one
   have H22 := Hid.mkt (len_zv.trans hk0.arg.nine)
   obtain ⟨A, hA⟩ : ∃ A, Hid (A = lw x q) := ⟨_, rfl⟩
   have hk0' : KI w cs A := by rw [hA.out]; exact hk0
   have C : Hid (∀ w0, Below w.heap.size w w0 → Calls Tryz.prog 47 #[.agg cs.toArray] w0 fun e w' => e = .returned (.bool (kOk A)) ∧ Below w0.heap.size w0 w') := fun w0 h => U.check cs A w0 (hk0'.keep h) (by rw [hA.out]; exact HPP.out q (by rw [← hm.out]; exact hi))
   have L0 := Hid.mkt (fun (ok : kOk A = true) (w0 : World) (h : Below w.heap.size w w0) => length_t cs A w0 (hk0'.keep h) ok)
   have hhA : cs[0]? = some (.int .i64 A.K) := by rw [hA.out]; exact hh.out
   replace hh := Hid.mkt hhA
   have hAK : I64 A.K := by obtain ⟨_, _, _, _, g, _⟩ := hk0'.arg; exact g
   have eL : Hid (lOk x q = (decide (A.K = K) && (kOk A && decide (kBN A = N)))) := by show lOk x q = _; unfold lOk; rw [← hA.out, ← hK.out, ← hN.out]
   clear hk0 hk0' hr0 hhA hA
   generalize A.K = AK at *
   have hz := hb.size
   have x2 := hx.cell 2 rfl
   go_wp2_with (first | refine load_part b (off + q * 22) cs (by rfl) rfl hrg Tryz.underlying45 HL.out ?_ | refine alloc_z zv info_zv ?_)
   intro w1 c1 b1 s1
   go_wp2_with (refine store_cel wr.heap.size zv cs rfl rfl c1 H22.out HL.out H1.out ?_)
   intro w2 c2 o2
   replace hx := o2.cel (hx.kept b1) (by have := hx.lt; omega)
   have b2 := (hb.trans (b1.mono hz)).trans (o2.below hz)
   clear hrg c1 b1 s1 o2 hb x2
   by_cases dK : AK = K
   rotate_left
   ·have dK2 : (AK != K) = true := by simp [dK]
    have E : Hid (Z = false) := by
     show Z = _
     rw [hZ.out]
     refine tOk_no q hi ?_
     rw [eL.out, decide_eq_false dK]
     rfl
    clear C L0 eL
    go_wp2
    refine region_g [] (fun w' => Cel w' wr.heap.size cs 45 ∧ Cel w' w.heap.size [.int .i64 K, .int .i64 N, .slice (some ⟨b, off, none⟩) 8 cap] 26) (by kernel_rfl) ?_
    have hS : Cel w2.drew wr.heap.size cs 45 ∧ Cel w2.drew w.heap.size [.int .i64 K, .int .i64 N, .slice (some ⟨b, off, none⟩) 8 cap] 26 := ⟨c2, hx⟩
    have bW : Below w.heap.size w w2.drew := b2.drew
    generalize w2.drew = V at *
    clear c2 hx b2
    refine AnyG.tk 0 hS ?_
    refine AnyG.tf 1 hS rfl (fun w0 h0 => by have c0 := h0.1.cell 0 hh.out; go_simp; try with_reducible rfl) ?_
    refine AnyG.tk 2 hS ?_
    refine AnyG.tf 3 hS rfl (fun w0 h0 => by have c1 := h0.2.cell 0 rfl; go_simp; try with_reducible rfl) ?_
    refine AnyG.tk 4 hS ?_
    refine AnyG.tk 5 hS ?_
    refine AnyG.sk 6 hS ?_
    refine AnyG.sk 7 hS ?_
    refine AnyG.sk 8 hS ?_
    refine AnyG.tk 9 hS ?_
    refine AnyG.tk 10 hS ?_
    refine AnyG.sk 11 hS ?_
    refine AnyG.sk 12 hS ?_
    refine AnyG.sk 13 hS ?_
    refine AnyG.sk 14 hS ?_
    refine AnyG.sk 15 hS ?_
    refine AnyG.tk 16 hS ?_
    refine AnyG.done (by kernel_rfl) ?_ _
    go_wp2
    go_ret
    rw [E.out]
    exact ⟨rfl, bW⟩
   have dK2 : (AK != K) = false := by simp [dK]
   have dK3 := dK.symm
   subst dK3
   cases ok : kOk A with
   | false =>
    have E : Hid (Z = false) := by
     show Z = _
     rw [hZ.out]
     refine tOk_no q hi ?_
     rw [eL.out, ok]
     simp
    rw [ok] at C
    clear L0 eL
    go_wp2
    refine region_g [] (fun w' => Cel w' wr.heap.size cs 45 ∧ Cel w' w.heap.size [.int .i64 K, .int .i64 N, .slice (some ⟨b, off, none⟩) 8 cap] 26) (by kernel_rfl) ?_
    have hS : Cel w2.drew wr.heap.size cs 45 ∧ Cel w2.drew w.heap.size [.int .i64 K, .int .i64 N, .slice (some ⟨b, off, none⟩) 8 cap] 26 := ⟨c2, hx⟩
    have bW : Below w.heap.size w w2.drew := b2.drew
    generalize w2.drew = V at *
    clear c2 hx b2
    refine AnyG.tk 0 hS ?_
    refine AnyG.tf 1 hS rfl (fun w0 h0 => by have c0 := h0.1.cell 0 hh.out; go_simp; try with_reducible rfl) ?_
    refine AnyG.tk 2 hS ?_
    refine AnyG.tf 3 hS rfl (fun w0 h0 => by have c1 := h0.2.cell 0 rfl; go_simp; try with_reducible rfl) ?_
    refine AnyG.tk 4 hS ?_
    refine AnyG.tk 5 hS ?_
    refine AnyG.take 6 (v := .agg (cs).toArray) rfl (by kernel_rfl) (by kernel_rfl) (by kernel_rfl) (by kernel_rfl) (fun _ _ _ h => h) hS (fun w0 h0 => run_load_obj wr.heap.size _ rfl h0.1 Tryz.underlying45 HL.out) (by rfl) ?rest16
    simp only [Act.put, yq0, yq1, yq2, yq3, yq4, yq5]
    refine AnyG.o1 7 ?_
    intro K hK
    go_simp
    refine (C.out _ bW).mono ?_
    rintro e w4 ⟨rfl, hb4⟩
    have hS2 := And.intro (hS.1.kept hb4) (hS.2.kept hb4)
    have bW2 := bW.trans (hb4.mono bW.size)
    clear hb4
    refine hK.out _ _ (fun _ => hS2) ?_
    clear hK K
    try simp only [Act.put, yq0, yq1, yq2, yq3, yq4, yq5]
    refine AnyG.tk 8 hS2 ?_
    refine AnyG.tk 9 hS2 ?_
    refine AnyG.tk 10 hS2 ?_
    refine AnyG.sk 11 hS2 ?_
    refine AnyG.sk 12 hS2 ?_
    refine AnyG.sk 13 hS2 ?_
    refine AnyG.sk 14 hS2 ?_
    refine AnyG.sk 15 hS2 ?_
    refine AnyG.tk 16 hS2 ?_
    refine AnyG.done (by kernel_rfl) ?_ _
    go_wp2
    go_ret
    rw [E.out]
    exact ⟨rfl, bW2⟩
   | true =>
    have L : Hid (∀ w0, Below w.heap.size w w0 → Calls Tryz.prog 48 #[.agg cs.toArray] w0 fun e w' => e = .returned (.int .i64 (kBN A)) ∧ Below w0.heap.size w0 w') := fun w0 h => L0.out ok w0 h
    rw [ok] at C
    generalize kBN A = M at *
    by_cases dN : M = N
    ·have dN2 : (M != N) = false := by simp [dN]
     have E : Hid (lOk x q = true) := by
      show _ = _
      rw [eL.out, ok, decide_eq_true dN]
      simp
     clear L0 eL
     go_wp2
     refine region_g [] (fun w' => Cel w' wr.heap.size cs 45 ∧ Cel w' w.heap.size [.int .i64 K, .int .i64 N, .slice (some ⟨b, off, none⟩) 8 cap] 26) (by kernel_rfl) ?_
     have hS : Cel w2.drew wr.heap.size cs 45 ∧ Cel w2.drew w.heap.size [.int .i64 K, .int .i64 N, .slice (some ⟨b, off, none⟩) 8 cap] 26 := ⟨c2, hx⟩
     have bW : Below w.heap.size w w2.drew := b2.drew
     generalize w2.drew = V at *
     clear c2 hx b2
     refine AnyG.tk 0 hS ?_
     refine AnyG.tf 1 hS rfl (fun w0 h0 => by have c0 := h0.1.cell 0 hh.out; go_simp; try with_reducible rfl) ?_
     refine AnyG.tk 2 hS ?_
     refine AnyG.tf 3 hS rfl (fun w0 h0 => by have c1 := h0.2.cell 0 rfl; go_simp; try with_reducible rfl) ?_
     refine AnyG.tk 4 hS ?_
     refine AnyG.tk 5 hS ?_
     refine AnyG.take 6 (v := .agg (cs).toArray) rfl (by kernel_rfl) (by kernel_rfl) (by kernel_rfl) (by kernel_rfl) (fun _ _ _ h => h) hS (fun w0 h0 => run_load_obj wr.heap.size _ rfl h0.1 Tryz.underlying45 HL.out) (by rfl) ?rest27
     simp only [Act.put, yq0, yq1, yq2, yq3, yq4, yq5]
     refine AnyG.o1 7 ?_
     intro K hK
     go_simp
     refine (C.out _ bW).mono ?_
     rintro e w4 ⟨rfl, hb4⟩
     have hS2 := And.intro (hS.1.kept hb4) (hS.2.kept hb4)
     have bW2 := bW.trans (hb4.mono bW.size)
     clear hb4
     refine hK.out _ _ (fun _ => hS2) ?_
     clear hK K
     try simp only [Act.put, yq0, yq1, yq2, yq3, yq4, yq5]
     refine AnyG.tk 8 hS2 ?_
     refine AnyG.tk 9 hS2 ?_
     refine AnyG.tk 10 hS2 ?_
     refine AnyG.take 11 (v := .agg (cs).toArray) rfl (by kernel_rfl) (by kernel_rfl) (by kernel_rfl) (by kernel_rfl) (fun _ _ _ h => h) hS2 (fun w0 h0 => run_load_obj wr.heap.size _ rfl h0.1 Tryz.underlying45 HL.out) (by rfl) ?rest31
     simp only [Act.put, yq0, yq1, yq2, yq3, yq4, yq5]
     refine AnyG.tk 13 hS2 ?_
     refine AnyG.tf 14 hS2 rfl (fun w0 h0 => by have c1 := h0.2.cell 1 rfl; go_simp; try with_reducible rfl) ?_
     refine AnyG.o1 12 ?_
     intro K hK
     go_simp
     refine (L.out _ bW2).mono ?_
     rintro e w5 ⟨rfl, hb5⟩
     have hS3 := And.intro (hS2.1.kept hb5) (hS2.2.kept hb5)
     have bW3 := bW2.trans (hb5.mono bW2.size)
     clear hb5
     refine hK.out _ _ (fun _ => hS3) ?_
     clear hK K
     try simp only [Act.put, yq0, yq1, yq2, yq3, yq4, yq5]
     refine AnyG.tk 15 hS3 ?_
     refine AnyG.tk 16 hS3 ?_
     refine AnyG.done (by kernel_rfl) ?_ _
     have HF := Hid.mkt (And.intro hS3.2 bW3)
     clear hS hS2 hS3 bW bW2 bW3
     go_wp2
     refine ⟨⟨q + 1, by omega, by go_num, ?_, HF.out⟩, by simp only [intOf]; omega⟩
     intro l hl
     by_cases e : l = q
     ·subst e; exact E.out
     ·exact HA.out l (by omega)
    ·have dN2 : (M != N) = true := by simp [dN]
     have E : Hid (Z = false) := by
      show Z = _
      rw [hZ.out]
      refine tOk_no q hi ?_
      rw [eL.out, decide_eq_false dN]
      simp
     clear L0 eL
     go_wp2
     refine region_g [] (fun w' => Cel w' wr.heap.size cs 45 ∧ Cel w' w.heap.size [.int .i64 K, .int .i64 N, .slice (some ⟨b, off, none⟩) 8 cap] 26) (by kernel_rfl) ?_
     have hS : Cel w2.drew wr.heap.size cs 45 ∧ Cel w2.drew w.heap.size [.int .i64 K, .int .i64 N, .slice (some ⟨b, off, none⟩) 8 cap] 26 := ⟨c2, hx⟩
     have bW : Below w.heap.size w w2.drew := b2.drew
     generalize w2.drew = V at *
     clear c2 hx b2
     refine AnyG.tk 0 hS ?_
     refine AnyG.tf 1 hS rfl (fun w0 h0 => by have c0 := h0.1.cell 0 hh.out; go_simp; try with_reducible rfl) ?_
     refine AnyG.tk 2 hS ?_
     refine AnyG.tf 3 hS rfl (fun w0 h0 => by have c1 := h0.2.cell 0 rfl; go_simp; try with_reducible rfl) ?_
     refine AnyG.tk 4 hS ?_
     refine AnyG.tk 5 hS ?_
     refine AnyG.take 6 (v := .agg (cs).toArray) rfl (by kernel_rfl) (by kernel_rfl) (by kernel_rfl) (by kernel_rfl) (fun _ _ _ h => h) hS (fun w0 h0 => run_load_obj wr.heap.size _ rfl h0.1 Tryz.underlying45 HL.out) (by rfl) ?rest42
     simp only [Act.put, yq0, yq1, yq2, yq3, yq4, yq5]
     refine AnyG.o1 7 ?_
     intro K hK
     go_simp
     refine (C.out _ bW).mono ?_
     rintro e w4 ⟨rfl, hb4⟩
     have hS2 := And.intro (hS.1.kept hb4) (hS.2.kept hb4)
     have bW2 := bW.trans (hb4.mono bW.size)
     clear hb4
     refine hK.out _ _ (fun _ => hS2) ?_
     clear hK K
     try simp only [Act.put, yq0, yq1, yq2, yq3, yq4, yq5]
     refine AnyG.tk 8 hS2 ?_
     refine AnyG.tk 9 hS2 ?_
     refine AnyG.tk 10 hS2 ?_
     refine AnyG.take 11 (v := .agg (cs).toArray) rfl (by kernel_rfl) (by kernel_rfl) (by kernel_rfl) (by kernel_rfl) (fun _ _ _ h => h) hS2 (fun w0 h0 => run_load_obj wr.heap.size _ rfl h0.1 Tryz.underlying45 HL.out) (by rfl) ?rest46
     simp only [Act.put, yq0, yq1, yq2, yq3, yq4, yq5]
     refine AnyG.tk 13 hS2 ?_
     refine AnyG.tf 14 hS2 rfl (fun w0 h0 => by have c1 := h0.2.cell 1 rfl; go_simp; try with_reducible rfl) ?_
     refine AnyG.o1 12 ?_
     intro K hK
     go_simp
     refine (L.out _ bW2).mono ?_
     rintro e w5 ⟨rfl, hb5⟩
     have hS3 := And.intro (hS2.1.kept hb5) (hS2.2.kept hb5)
     have bW3 := bW2.trans (hb5.mono bW2.size)
     clear hb5
     refine hK.out _ _ (fun _ => hS3) ?_
     clear hK K
     try simp only [Act.put, yq0, yq1, yq2, yq3, yq4, yq5]
     refine AnyG.tk 15 hS3 ?_
     refine AnyG.tk 16 hS3 ?_
     refine AnyG.done (by kernel_rfl) ?_ _
     go_wp2
     go_ret
     rw [E.out]
     exact ⟨rfl, bW3⟩
  ·obtain rfl : q = 8 := by omega
   have E : Hid (Z = true) := by
    show Z = _
    rw [hZ.out]
    exact tOk_yes (by rw [← hN.out]; exact q1) hm.out.symm HA.out
   go_wp2
   go_ret
   rw [E.out]
   exact ⟨rfl, hb⟩
end Go.Proofs.YtfnkklkdajlhlaaGreatDoor
