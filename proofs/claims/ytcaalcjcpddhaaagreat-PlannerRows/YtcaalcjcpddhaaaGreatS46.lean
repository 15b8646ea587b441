/-
  The contract of the program's fits. The contract of the program's Check, where it fits. The contracts of the program's Check, Bits, Size, Access, Rank and Select, over rows by places as values. The contracts of the program's Access, Rank and Select, over rows by places as values. The contract of the program's Build. A row by places that is built, right; an argument of the type api.Fano, opened. What is built of a row that may be; an argument of one of the kinds opened. The contracts of the program's noPlain, noRrr, noFano; a part of a struct out of its block. The contract of the program's only: the kind, if the fields of the others are zero. Plain arithmetic of the landed package plain: groups of eight words, their counts, the word that is sought.
-/
import Derived.Test.YtcaalcjcpddhaaaGreatS45
import Derived.Deep.MidRow
set_option linter.unusedVariables false
set_option linter.unusedSimpArgs false
set_option maxRecDepth 100000
namespace Go.Proofs.YtcaalcjcpddhaaaGreat
open Go.RowKit Num Bit
end Go.Proofs.YtcaalcjcpddhaaaGreat
namespace Go.Proofs.YtcaalcjcpddhaaaGreat
open Go.RowKit Go.Shelf Num Bit
attribute [local go_sem] Oper.semAt_some
end Go.Proofs.YtcaalcjcpddhaaaGreat
namespace Go.Proofs.YtcaalcjcpddhaaaGreat
open Go.RowKit Go.Shelf Num Bit
end Go.Proofs.YtcaalcjcpddhaaaGreat
namespace Go.Proofs.YtcaalcjcpddhaaaGreat
open Go.RowKit Go.Shelf Num Bit
end Go.Proofs.YtcaalcjcpddhaaaGreat
namespace Go.Proofs.YtcaalcjcpddhaaaGreat
open Go.RowKit Go.Shelf Num Bit
end Go.Proofs.YtcaalcjcpddhaaaGreat
namespace Go.Proofs.YtcaalcjcpddhaaaGreat
open Go.ChangeShapes Go.WideShapes Go.ChangeAt Go.RowKit Go.Joins Go.Deep Num Bit
theorem kB_ok9 (N : Int) (xs : List Nat) (hf : Fit xs) (hk : chk N xs = true) (hN : N ≤ 3000) : kOk9 (kB9 N xs) = true ∧ kBN9 (kB9 N xs) = N ∧ kBX9 (kB9 N xs) = xs := by
 obtain ⟨h0, h1, _, _⟩ := chk_out N xs hk
 obtain ⟨n, rfl⟩ := Int.eq_ofNat_of_zero_le h0
 have hn : n ≤ 3000 := by omega
 obtain ⟨L, hL⟩ : ∃ L, L = plc (bitAt xs) n := ⟨_, rfl⟩
 have RS : Rise L n := by rw [hL]; exact plc_rise _ _
 have mn := RS.len
 have v20 := wdF_le n L.length (by omega)
 have e : kB9 (n : Int) xs = fOf n L := by
  unfold kB9
  rw [if_pos hk, Int.toNat_natCast, ← hL]
 have hE : n / 2 ^ wdF n L.length ≤ n := Nat.div_le_self _ _
 have hrow : fRow (fOf n L) = some L := by
  refine fRow_of RS (by omega) (by unfold hiN; omega) ?_
  have l1 := length_lo_le L (wdF n L.length)
  have l3 : (loP L (wdF n L.length)).length * max (wdF n L.length) 1 ≤ 3000 * 20 := Nat.mul_le_mul (by omega) (by omega)
  omega
 have ok : kOk9 (fOf n L) = true := by
  unfold kOk9
  rw [hrow]
  exact (fSame_iff _ _).2 rfl
 rw [e]
 refine ⟨ok, ?_, ?_⟩
 ·unfold kBN9
  rw [if_pos ok]
  rfl
 ·unfold kBX9 kRow
  rw [if_pos ok, hrow]
  show rowOf n (isIn L) = xs
  have hy := chk_row (n : Int) xs hf hk
  rw [Int.toNat_natCast] at hy
  rw [rowOf_congr n _ (bitAt xs) fun j hj => by rw [hL, isIn_plc, decide_eq_true hj, Bool.true_and]]
  exact hy.symm
end Go.Proofs.YtcaalcjcpddhaaaGreat
namespace Go.Proofs.YtcaalcjcpddhaaaGreat
open Go.ChangeShapes Go.WideShapes Go.ChangeAt Go.RowKit Go.Joins Go.Deep Num Bit Bn
theorem kB_p (N : Int) (xs : List Nat) (h : kE7 N xs = 0) : kB 1 N xs = ⟨1, kB7 N xs, n8, n9⟩ := by
 have e : kE 1 N xs = 0 := h
 unfold kB
 rw [if_pos e]
 rfl
theorem kB_r (N : Int) (xs : List Nat) (h : kE8 N xs = 0) : kB 2 N xs = ⟨2, n7, kB8 N xs, n9⟩ := by
 have e : kE 2 N xs = 0 := h
 unfold kB
 rw [if_pos e]
 rfl
theorem kB_f (N : Int) (xs : List Nat) (h : kE9 N xs = 0) : kB 3 N xs = ⟨3, n7, n8, kB9 N xs⟩ := by
 have e : kE 3 N xs = 0 := h
 unfold kB
 rw [if_pos e]
 rfl
theorem kB_none (k N : Int) (xs : List Nat) (h : kE k N xs ≠ 0) : kB k N xs = ⟨0, n7, n8, n9⟩ := by
 unfold kB
 rw [if_neg h]
theorem on_mp (p : RA7) : kOn ⟨1, p, n8, n9⟩ = 1 := by
 have : kZs ⟨1, p, n8, n9⟩ = true := rfl
 unfold kOn
 rw [if_pos this]
theorem on_mr (r : RA8) : kOn ⟨2, n7, r, n9⟩ = 2 := by
 have : kZs ⟨2, n7, r, n9⟩ = true := rfl
 unfold kOn
 rw [if_pos this]
theorem on_mf (f : RA9) : kOn ⟨3, n7, n8, f⟩ = 3 := by
 have : kZs ⟨3, n7, n8, f⟩ = true := rfl
 unfold kOn
 rw [if_pos this]
end Go.Proofs.YtcaalcjcpddhaaaGreat
namespace Go.Proofs.YtcaalcjcpddhaaaGreat
open Go.RowKit Num Bit
theorem load_part {ops : Array Oper} {rest : List Oper} {d : Option Tmp} {ty T : TypeId} {ps : String} {af : Array Edge} {gd : Option (Nat × Bool)} {a : Act} {w : World} {Q : Exit → Act → World → Prop} {x : Operand}
  (g o : Nat) (cs : List Value) {fs : Array Field} (hwn : Region.wanted (⟨d, .load T x, ty, ps, af, gd⟩ : Oper) (yielded ops a.tmps) = true) (hx : a.eval x = .pointer (some ⟨g, o, none⟩)) (hc : w.rangeAt g o cs) (hu : Tryz.prog.underlying T = some (.struct fs)) (hi : (Tryz.prog.info? T).map (·.size) = some cs.length)
  (h : wpList Tryz.prog ops Q rest (a.put d (.agg cs.toArray)) w) :
  wpList Tryz.prog ops Q (⟨d, .load T x, ty, ps, af, gd⟩ :: rest) a w :=
 wpList_step fun K hK => by
  rw [if_pos hwn]
  exact wp_load_mid T x rfl g o hx cs _ hc hu rfl hi (hK _ _ h)
theorem Cel.part {w : World} {b : Nat} {T : TypeId} (pre cs post : List Value) (h : Cel w b (pre ++ (cs ++ post)) T) : w.rangeAt b pre.length cs := fun j v hv => by
 refine h.cell (pre.length + j) ?_
 have hj : j < cs.length := (List.getElem?_eq_some_iff.1 hv).1
 rw [List.getElem?_append_right (by omega), List.getElem?_append_left (by omega), show pre.length + j - pre.length = j by omega]
 exact hv
end Go.Proofs.YtcaalcjcpddhaaaGreat
namespace Go.Proofs.YtcaalcjcpddhaaaGreat
open Go.RowKit Num Bit
theorem parts {w : World} {b : Nat} {K : Value} {cp cr cf : List Value} {T : TypeId} (l4 : cp.length = 4) (l9 : 9 = cr.length) (h : Cel w b (K :: (cp ++ (cr ++ cf))) T) : w.cell? ⟨b, 0, none⟩ = some K ∧ w.rangeAt b 1 cp ∧ w.rangeAt b 5 cr ∧ w.rangeAt b 14 cf := by
 have a2 := Cel.part (K :: cp) cr cf h
 rw [List.length_cons, l4] at a2
 have h' : Cel w b ((K :: (cp ++ cr)) ++ (cf ++ [])) T := by simpa using h
 have a3 := Cel.part (K :: (cp ++ cr)) cf [] h'
 rw [List.length_cons, List.length_append, l4, ← l9] at a3
 exact ⟨h.cell 0 rfl, Cel.part [K] cp (cr ++ cf) h, a2, a3⟩
end Go.Proofs.YtcaalcjcpddhaaaGreat
namespace Go.Proofs.YtcaalcjcpddhaaaGreat
open Num
namespace Bit
end Bit
end Go.Proofs.YtcaalcjcpddhaaaGreat
