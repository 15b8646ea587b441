/-
  Plain: what is built of a row needs no more than layer 21 tells. The contracts of the program's noPlain, noRrr, noFano; a part of a struct out of its block. The contract of the program's only: the kind, if the fields of the others are zero. Plain arithmetic of the landed package plain: groups of eight words, their counts, the word that is sought. The contracts of the program's groups and wordsOf. The contract of the program's counted: an array of eight counts by value. The library's Clone at words. The library's Search. The contracts of the program's copied, count and sought. The contract of the program's Build. The library's Equal, Clone and Search at the types that package plain asks. The contract of the program's Check. The contract of the program's count. The contracts of the program's sought and of the function that it hands to Search. The contracts of the program's Build, Bits, Size, Access, Rank and Select. The contracts of the program's functions of plain rows, over objects.
-/
import Derived.Test.YtcaalcjcpddhaaaGreatR16
import Derived.Test.YtcaalcjcpddhaaaGreatR14
import Derived.Test.YtcaalcjcpddhaaaGreatR17
import Derived.Deep.MidRow
import Derived.Test.YtcaalcjcpddhaaaGreatR01
import Derived.Test.YtcaalcjcpddhaaaGreatR04
import Derived.Test.YtcaalcjcpddhaaaGreatR09
import Derived.Deep.WholeRow
import Derived.Laws.ResultCell
import Derived.Test.YtcaalcjcpddhaaaGreatR02
import Derived.Test.YtcaalcjcpddhaaaGreatR03
import Derived.Laws.Cover3
import Derived.Test.YtcaalcjcpddhaaaGreatR05
namespace Go.Proofs.YtcaalcjcpddhaaaGreat
open Go.RowKit Num Bit Bn
set_option linter.unusedVariables false
set_option linter.unusedSimpArgs false
set_option maxRecDepth 100000

theorem kE_in {k N : Int} {xs : List Nat} (h : kE k N xs = 0) : (k = 1 ∨ k = 2 ∨ k = 3) ∧ chk N xs = true := by
 unfold kE at h
 split at h
 ·rename_i e
  refine ⟨.inl e, ?_⟩
  unfold kE7 pbE at h
  by_cases c : chk N xs = true
  ·exact c
  ·rw [if_neg c] at h; omega
 split at h
 ·rename_i e
  refine ⟨.inr (.inl e), ?_⟩
  unfold kE8 rbE at h
  by_cases c : chk N xs = true
  ·exact c
  ·rw [if_neg c] at h; omega
 split at h
 ·rename_i e
  refine ⟨.inr (.inr e), ?_⟩
  unfold kE9 at h
  by_cases c : chk N xs = true
  ·exact c
  ·rw [if_neg c] at h; omega
 ·omega
theorem kZ_row1 (n : Nat) (xs : List Nat) (hk : chk (n : Int) xs = true) : kZ7 (kB7 n xs) = (Zz.Pn.row 1 n (cntB xs n) : Int) := by
 obtain ⟨_, _, hl, _⟩ := chk_out _ xs hk
 have ok := (kB_ok7 n xs hk).1
 unfold kOk7 at ok
 unfold kZ7 pzN
 rw [if_pos ok]
 unfold kB7 pbN pbS pbT
 simp only [if_pos hk]
 rw [length_supL, length_subL, Int.toNat_natCast]
 unfold Zz.Pn.row Zz.Pn.up
 rw [if_pos rfl]
 omega
theorem kZ_row2 (n : Nat) (xs : List Nat) (hf : Fit xs) (hk : chk (n : Int) xs = true) : kZ8 (kB8 n xs) ≤ (Zz.Pn.row 2 n (cntB xs n) : Int) := by
 have h := kZ_val8 n xs hf hk
 have b := bat_le n (bitAt xs) (nb n)
 rw [h]
 have e : Zz.Pn.row 2 n (cntB xs n) = 17 * nb n + 64 * gN n := by
  unfold Zz.Pn.row
  rw [if_neg (by decide), if_pos rfl]
  unfold Zz.Pn.up gN nb
  omega
 rw [e]
 omega
theorem kZ_row3 (n : Nat) (xs : List Nat) (hf : Fit xs) (hk : chk (n : Int) xs = true) (hn : n ≤ 3000) : kZ9 (kB9 n xs) = (Zz.Pn.row 3 n (cntB xs n) : Int) := by
 have ok := (kB_ok9 n xs hf hk (by omega)).1
 have hc := plc_cnt xs n
 obtain ⟨L, hL⟩ : ∃ L, L = plc (bitAt xs) n := ⟨_, rfl⟩
 rw [← hL] at hc
 have e : kB9 (n : Int) xs = fOf n L := by
  unfold kB9
  rw [if_pos hk, Int.toNat_natCast, ← hL]
 rw [e] at ok ⊢
 unfold kZ9
 rw [if_pos ok]
 show ((loP L (wdF n L.length)).length : Int) * (max (wdF n L.length) 1 : Nat) + (hiN L n (wdF n L.length) : Int) + 64 = _
 rw [← Int.natCast_mul]
 have ew : Zz.Pn.fw n L.length = wdF n L.length := by
  unfold Zz.Pn.fw wdF
  by_cases z : L.length = 0
  ·rw [if_pos z, if_neg (by omega)]
  ·rw [if_neg z, if_pos (by omega)]
 have ef : Zz.Pn.row 3 n (cntB xs n) = L.length * wdF n L.length + L.length + n / 2 ^ wdF n L.length + 1 + 64 := by
  unfold Zz.Pn.row
  rw [if_neg (by decide), if_neg (by decide), if_pos rfl, ← hc]
  unfold Zz.Pn.fano
  rw [ew]
 have key : (loP L (wdF n L.length)).length * max (wdF n L.length) 1 = L.length * wdF n L.length := by
  by_cases c : wdF n L.length = 0
  ·rw [c, show loP L 0 = [] from rfl]
   simp
  ·rw [length_loP L _ (by omega), show max (wdF n L.length) 1 = wdF n L.length by omega]
 rw [ef, key]
 unfold hiN
 omega
theorem kZ_row (k N : Int) (xs : List Nat) (hf : Fit xs) (h : kE k N xs = 0) (hN : N ≤ 3000) : kZ (kB k N xs) ≤ (Zz.Pn.rowI k N (onesI N xs N) : Int) := by
 obtain ⟨h1, hk⟩ := kE_in h
 obtain ⟨h0, h2, _, _⟩ := chk_out N xs hk
 obtain ⟨n, rfl⟩ := Int.eq_ofNat_of_zero_le h0
 have eo : onesI (n : Int) xs (n : Int) = (cntB xs n : Int) := by
  unfold onesI
  rw [if_pos hk, show (min (n : Int) (n : Int)).toNat = n by omega]
 have cl : cntB xs n ≤ n := by
  have := plc_cnt xs n
  have := plc_le (bitAt xs) n
  omega
 rw [eo]
 have er : Zz.Pn.rowI k (n : Int) (cntB xs n : Int) = Zz.Pn.row k n (cntB xs n) := by
  unfold Zz.Pn.rowI
  rw [if_pos (by omega), Int.toNat_natCast, Int.toNat_natCast]
 rw [er]
 rcases h1 with rfl | rfl | rfl
 ·rw [kB_p _ _ h, (on_p (on_mp (kB7 n xs))).2.2.2, kZ_row1 n xs hk]
  exact Int.le_refl _
 ·rw [kB_r _ _ h, (on_r (on_mr (kB8 n xs))).2.2.2]
  exact kZ_row2 n xs hf hk
 ·rw [kB_f _ _ h, (on_f (on_mf (kB9 n xs))).2.2.2, kZ_row3 n xs hf hk (by omega)]
  exact Int.le_refl _
end Go.Proofs.YtcaalcjcpddhaaaGreat

namespace Go.Proofs.YtcaalcjcpddhaaaGreat
open Go.RowKit Num Bit
set_option linter.unusedVariables false
set_option linter.unusedSimpArgs false
set_option maxRecDepth 100000

theorem load_part {ops : Array Oper} {rest : List Oper} {d : Option Tmp} {ty T : TypeId} {ps : String} {af : Array Edge} {gd : Option (Nat × Bool)} {a : Act} {w : World} {Q : Exit → Act → World → Prop} {x : Operand}
  (g o : Nat) (cs : List Value) {fs : Array Field} (hwn : Region.wanted (⟨d, .load T x, ty, ps, af, gd⟩ : Oper) (yielded ops a.tmps) = true) (hx : a.eval x = .pointer (some ⟨g, o, none⟩)) (hc : w.rangeAt g o cs) (hu : Tryz.prog.underlying T = some (.struct fs)) (hi : (Tryz.prog.info? T).map (·.size) = some cs.length)
  (h : wpList Tryz.prog ops Q rest (a.put d (.agg cs.toArray)) w) :
  wpList Tryz.prog ops Q (⟨d, .load T x, ty, ps, af, gd⟩ :: rest) a w :=
 wpList_step fun K hK => by
  rw [if_pos hwn]
  exact wp_load_mid T x rfl g o hx cs _ hc hu rfl hi (hK _ _ h)
theorem Cel.part {w : World} {b : Nat} {T : TypeId} (pre cs post : List Value) (h : Cel w b (pre ++ (cs ++ post)) T) : w.rangeAt b pre.length cs := fun j v hv => by
 refine h.cell (pre.length + j) ?_
 have hj : j < cs.length := (List.getElem?_eq_some_iff.1 hv).1
 rw [List.getElem?_append_right (by omega), List.getElem?_append_left (by omega), show pre.length + j - pre.length = j by omega]
 exact hv
end Go.Proofs.YtcaalcjcpddhaaaGreat

namespace Go.Proofs.YtcaalcjcpddhaaaGreat
open Go.RowKit Num Bit
set_option linter.unusedVariables false
set_option linter.unusedSimpArgs false
set_option maxRecDepth 100000

theorem parts {w : World} {b : Nat} {K : Value} {cp cr cf : List Value} {T : TypeId} (l4 : cp.length = 4) (l9 : 9 = cr.length) (h : Cel w b (K :: (cp ++ (cr ++ cf))) T) : w.cell? ⟨b, 0, none⟩ = some K ∧ w.rangeAt b 1 cp ∧ w.rangeAt b 5 cr ∧ w.rangeAt b 14 cf := by
 have a2 := Cel.part (K :: cp) cr cf h
 rw [List.length_cons, l4] at a2
 have h' : Cel w b ((K :: (cp ++ cr)) ++ (cf ++ [])) T := by simpa using h
 have a3 := Cel.part (K :: (cp ++ cr)) cf [] h'
 rw [List.length_cons, List.length_append, l4, ← l9] at a3
 exact ⟨h.cell 0 rfl, Cel.part [K] cp (cr ++ cf) h, a2, a3⟩
end Go.Proofs.YtcaalcjcpddhaaaGreat

namespace Go.Proofs.YtcaalcjcpddhaaaGreat
open Num
namespace Bit
set_option linter.unusedVariables false

def grp (xs : List Nat) (g : Nat) : List Nat := (xs.drop (8 * g)).take 8
def ahP (ws : List Nat) (q : Nat) : List Int := (List.range 8).map fun j => if j < q then (cntB ws (64 * j) : Int) else 0
def ahd (ws : List Nat) : List Int := ahP ws ws.length
def ahT (xs : List Nat) (g : Nat) : List Int := (ahd (grp xs g)).take (grp xs g).length
def wb (xs : List Nat) (bit : Bool) (j : Nat) : Nat := if bit then gt xs j else 18446744073709551615 - gt xs j
end Bit
end Go.Proofs.YtcaalcjcpddhaaaGreat

namespace Go.Proofs.YtcaalcjcpddhaaaGreat
open Go.RowKit Num Bit
set_option linter.unusedVariables false
set_option linter.unusedSimpArgs false
set_option maxRecDepth 100000

end Go.Proofs.YtcaalcjcpddhaaaGreat

namespace Go.Proofs.YtcaalcjcpddhaaaGreat
open Go.RowKit Num Bit
set_option linter.unusedVariables false
set_option linter.unusedSimpArgs false
set_option maxRecDepth 100000

end Go.Proofs.YtcaalcjcpddhaaaGreat

namespace Go.Proofs.YtcaalcjcpddhaaaGreat
open Go.RowKit Num Bit
set_option linter.unusedVariables false
set_option linter.unusedSimpArgs false
set_option maxRecDepth 100000
end Go.Proofs.YtcaalcjcpddhaaaGreat

namespace Go.Proofs.YtcaalcjcpddhaaaGreat
open Go.RowKit Num Bit
set_option linter.unusedVariables false
set_option linter.unusedSimpArgs false
set_option maxRecDepth 100000
end Go.Proofs.YtcaalcjcpddhaaaGreat

namespace Go.Proofs.YtcaalcjcpddhaaaGreat
open Go.RowKit Num Bit
set_option linter.unusedVariables false
set_option linter.unusedSimpArgs false
set_option maxRecDepth 100000

end Go.Proofs.YtcaalcjcpddhaaaGreat

namespace Go.Proofs.YtcaalcjcpddhaaaGreat
open Go.RowKit Num Bit
set_option linter.unusedVariables false
set_option linter.unusedSimpArgs false
set_option maxRecDepth 100000

structure PB (w3 wr : World) (m n : Nat) (bo : Option Addr) (bc : Nat) (sv tv : Value) (G T : Nat) (xs : List Nat) : Prop where
 bx : Cel wr w3.heap.size [.int .i64 (m : Int), .slice bo n bc, sv, tv] 28
 hb : Below w3.heap.size w3 wr
 o1 : wr.ownsRow (w3.heap.size + 1) 3 1 sv G (iv (supP (m : Int) xs G))
 o2 : wr.ownsRow (w3.heap.size + 1) 3 1 tv T (iv (subP (m : Int) xs T))
 ap : Ap.Apart sv tv
end Go.Proofs.YtcaalcjcpddhaaaGreat

namespace Go.Proofs.YtcaalcjcpddhaaaGreat
open Go.RowKit Num Bit
set_option linter.unusedVariables false
set_option linter.unusedSimpArgs false
set_option maxRecDepth 100000

end Go.Proofs.YtcaalcjcpddhaaaGreat

namespace Go.Proofs.YtcaalcjcpddhaaaGreat
open Go.RowKit Num Bit
set_option linter.unusedVariables false
set_option linter.unusedSimpArgs false
set_option maxRecDepth 100000

end Go.Proofs.YtcaalcjcpddhaaaGreat

namespace Go.Proofs.YtcaalcjcpddhaaaGreat
open Go.RowKit Num Bit
set_option linter.unusedVariables false
set_option linter.unusedSimpArgs false
set_option maxRecDepth 100000

end Go.Proofs.YtcaalcjcpddhaaaGreat

namespace Go.Proofs.YtcaalcjcpddhaaaGreat
open Go.RowKit Num Bit
set_option linter.unusedVariables false
set_option linter.unusedSimpArgs false
set_option maxRecDepth 100000

end Go.Proofs.YtcaalcjcpddhaaaGreat

namespace Go.Proofs.YtcaalcjcpddhaaaGreat
open Go.RowKit Num Bit
set_option linter.unusedVariables false
set_option linter.unusedSimpArgs false
set_option maxRecDepth 100000

end Go.Proofs.YtcaalcjcpddhaaaGreat

namespace Go.Proofs.YtcaalcjcpddhaaaGreat
open Go.RowKit Num Bit
set_option linter.unusedVariables false
set_option maxRecDepth 100000

theorem PlOut.ki {base : Nat} {w : World} {bo : Option Addr} {bc : Nat} {so : Option Addr} {sc : Nat} {tO : Option Addr} {tc : Nat} (N : Int) (xs : List Nat) (hn : I64 N) (hf : Fit xs) (hl : xs.length ≤ 1048576) (h : PlOut base w bo (pbX N xs) bc so (pbS N xs) sc tO (pbT N xs) tc) :
  KI7 w [.int .i64 (pbN N xs), .slice bo (pbX N xs).length bc, .slice so (pbS N xs).length sc, .slice tO (pbT N xs).length tc] (kB7 N xs) := by
 have hp := h.plin N xs hn hf hl
 exact ⟨⟨bo, bc, so, sc, tO, tc, rfl, ⟨hp.n, hp.x, hp.f, hp.c, hp.s, hp.sf, hp.sc, hp.t, hp.tf, hp.tc⟩⟩, hp.l, hp.sl, hp.tl⟩
end Go.Proofs.YtcaalcjcpddhaaaGreat
