/-
  The contracts of the document's Build, Whole and Size of layer 8. The two tables of package rrr, as the program's text lays them: how many bits an offset of each class has, and how many blocks of each class there are. Rows in blocks as objects: their cells are not looked into but here. The contracts of the document's functions over them. Plain arithmetic of rows of bits by the places of those that are 1 (Elias and Fano): the places, their lowest bits, the others in unary; and the way back. Nothing of the program is in here.
-/
import Derived.Test.YtpeecabfcgijhaaGreatDoorM08
import Derived.Test.YtpeecabfcgijhaaGreatDoorM02
import Derived.Test.YtpeecabfcgijhaaGreatDoorM06
import Derived.Test.YtpeecabfcgijhaaGreatDoorM04
import Derived.Test.YtpeecabfcgijhaaGreatDoorM01
namespace Go.Proofs.YtpeecabfcgijhaaGreatDoor
open Go.RowKit Num Bit Bn
set_option linter.unusedVariables false
set_option linter.unusedSimpArgs false
set_option maxRecDepth 100000

def rbN (N : Int) (xs : List Nat) : Int := if chk N xs then N else 0
def rbK (N : Int) (xs : List Nat) : Int := if chk N xs then (nb N.toNat : Int) else 0
def rbV (N : Int) (xs : List Nat) : Int := if chk N xs then 4 else 0
def rbM (N : Int) (xs : List Nat) : Int := if chk N xs then (nb N.toNat : Int) * 4 else 0
def rbC (N : Int) (xs : List Nat) : List Nat := if chk N xs then rC N.toNat (bitAt xs) else []
def rbL (N : Int) (xs : List Nat) : Int := if chk N xs then (bat N.toNat (bitAt xs) (nb N.toNat) : Int) else 0
def rbO (N : Int) (xs : List Nat) : List Nat := if chk N xs then rO N.toNat (bitAt xs) else []
def rbS (N : Int) (xs : List Nat) : List Int := if chk N xs then rS N.toNat (bitAt xs) else []
def rbT (N : Int) (xs : List Nat) : List Int := if chk N xs then rT N.toNat (bitAt xs) else []
def rbE (N : Int) (xs : List Nat) : Int := if chk N xs then 0 else 2
structure RIn (w : World) (N k V M : Int) (ao : Option Addr) (xs : List Nat) (cap : Nat) (L : Int) (qo : Option Addr) (ys : List Nat) (dap : Nat) (so : Option Addr) (S : List Int) (sc : Nat) (tO : Option Addr) (T : List Int) (tc : Nat) : Prop where
 x : Wd w ao xs
 xf : Fit xs
 xc : xs.length ≤ cap
 y : Wd w qo ys
 yf : Fit ys
 yc : ys.length ≤ dap
 s : Nd w so S
 sl : S.length ≤ 1048576
 sc : S.length ≤ sc
 t : Nd w tO T
 tl : T.length ≤ 1048576
 tc : T.length ≤ tc
theorem RIn.keep {w w' : World} {N k V M : Int} {ao : Option Addr} {xs : List Nat} {cap : Nat} {L : Int} {qo : Option Addr} {ys : List Nat} {dap : Nat} {so : Option Addr} {S : List Int} {sc : Nat} {tO : Option Addr} {T : List Int} {tc : Nat} (h : RIn w N k V M ao xs cap L qo ys dap so S sc tO T tc) (hb : Below w.heap.size w w') : RIn w' N k V M ao xs cap L qo ys dap so S sc tO T tc :=
 ⟨h.x.keep hb, h.xf, h.xc, h.y.keep hb, h.yf, h.yc, h.s.keep hb, h.sl, h.sc, h.t.keep hb, h.tl, h.tc⟩
end Go.Proofs.YtpeecabfcgijhaaGreatDoor

namespace Go.Proofs.YtpeecabfcgijhaaGreatDoor
open Go.RowKit Num Bit Bn
set_option linter.unusedVariables false
set_option maxRecDepth 100000

def Tb (w : World) (b : Nat) (cs : List Value) : Prop := ∃ T, Cel w b cs T
theorem Tb.lt {w : World} {b : Nat} {cs : List Value} (h : Tb w b cs) : b < w.heap.size := by
 obtain ⟨T, h⟩ := h
 exact h.lt
theorem Tb.cell {w : World} {b : Nat} {cs : List Value} (h : Tb w b cs) (i : Nat) {v : Value} (hv : cs[i]? = some v) : w.cell? ⟨b, i, none⟩ = some v := by
 obtain ⟨T, h⟩ := h
 exact h.cell i hv
theorem Tb.keep {w w' : World} {b base : Nat} {cs : List Value} (h : Tb w b cs) (hb : Below base w w') (hlt : b < base) : Tb w' b cs := by
 obtain ⟨T, h⟩ := h
 exact ⟨T, h.keep hb hlt⟩
theorem Tb.kept {w w' : World} {b : Nat} {cs : List Value} (h : Tb w b cs) (hb : Below w.heap.size w w') : Tb w' b cs := h.keep hb h.lt
theorem Tb.other {w : World} {b : Nat} {cs : List Value} (h : Tb w b cs) {a : Addr} (ha : b ≠ a.block) (v : Value) : Tb (w.setCell a v) b cs := by
 obtain ⟨T, h⟩ := h
 exact ⟨T, h.other ha v⟩
def vI (l : List Nat) : List Value := l.map fun n : Nat => Value.int .i64 (n : Int)
theorem vI_get (l : List Nat) (i : Nat) (h : i < l.length) : (vI l)[i]? = some (.int .i64 (gt l i)) := by
 unfold vI
 rw [List.getElem?_map, gt_get l i h]
 rfl
theorem wv_get' (l : List Nat) (i : Nat) (h : i < l.length) : (wv l)[i]? = some (.int .u64 (gt l i)) := by
 unfold wv
 rw [List.getElem?_map, gt_get l i h]
 rfl
def wdL : List Nat := [0, 4, 7, 9, 11, 12, 13, 13, 13, 13, 12, 11, 9, 7, 4, 0]
def chL : List Nat := [1, 15, 105, 455, 1365, 3003, 5005, 6435, 6435, 5005, 3003, 1365, 455, 105, 15, 1]
theorem length_wdL : wdL.length = 16 := rfl
theorem length_chL : chL.length = 16 := rfl
theorem gt_wdL (c : Nat) (h : c ≤ 15) : gt wdL c = kwd c := by
 match c, h with
 | 0, _ | 1, _ | 2, _ | 3, _ | 4, _ | 5, _ | 6, _ | 7, _ | 8, _ | 9, _ | 10, _ | 11, _ | 12, _ | 13, _ | 14, _ | 15, _ => decide +kernel
theorem gt_chL (c : Nat) (h : c ≤ 15) : gt chL c = ch 15 c := by
 match c, h with
 | 0, _ | 1, _ | 2, _ | 3, _ | 4, _ | 5, _ | 6, _ | 7, _ | 8, _ | 9, _ | 10, _ | 11, _ | 12, _ | 13, _ | 14, _ | 15, _ => decide +kernel
structure GV (w : World) : Prop where
 wd : Tb w 1 (vI wdL)
 wy : Tb w 0 (wv chL)
theorem GV.keep {w w' : World} (h : GV w) (hb : Below w.heap.size w w') : GV w' := ⟨h.wd.kept hb, h.wy.kept hb⟩
theorem GV.kept {w w' : World} (h : GV w) (hb : Below w.heap.size w w') : GV w' := h.keep hb
theorem GV.two {w : World} (h : GV w) : 1 < w.heap.size := by
 have := h.wd.lt
 have := h.wy.lt
 omega
end Go.Proofs.YtpeecabfcgijhaaGreatDoor

namespace Go.Proofs.YtpeecabfcgijhaaGreatDoor
open Go.RowKit Num Bit Bn
set_option linter.unusedVariables false
set_option linter.unusedSimpArgs false
set_option maxRecDepth 100000

structure RA8 where
 N : Int
 k : Int
 V : Int
 M : Int
 xs : List Nat
 L : Int
 ys : List Nat
 S : List Int
 T : List Int
def KArg8 (w : World) (cs : List Value) (a : RA8) : Prop := ∃ ao cap qo dap so sc tO tc, cs = [.int .i64 a.N, .int .i64 a.k, .int .i64 a.V, .int .i64 a.M, .slice ao a.xs.length cap, .int .i64 a.L, .slice qo a.ys.length dap, .slice so a.S.length sc, .slice tO a.T.length tc] ∧ (I64 a.N ∧ I64 a.k ∧ I64 a.V ∧ I64 a.M ∧ I64 a.L ∧ FitI a.S ∧ FitI a.T) ∧ Wd w ao a.xs ∧ Fit a.xs ∧ a.xs.length ≤ cap ∧ Wd w qo a.ys ∧ Fit a.ys ∧ a.ys.length ≤ dap ∧ Nd w so a.S ∧ a.S.length ≤ sc ∧ Nd w tO a.T ∧ a.T.length ≤ tc
structure KI8 (w : World) (cs : List Value) (a : RA8) : Prop where
 arg : KArg8 w cs a
 xl : a.xs.length ≤ 1048576
 yl : a.ys.length ≤ 1048576
 sl : a.S.length ≤ 1048576
 tl : a.T.length ≤ 1048576
 gv : GV w
theorem KArg8.keep {w w' : World} {cs : List Value} {a : RA8} (h : KArg8 w cs a) (hb : Below w.heap.size w w') : KArg8 w' cs a := by
 obtain ⟨ao, cap, qo, dap, so, sc, tO, tc, e, f, a1, a2, a3, a4, a5, a6, a7, a8, a9, a10⟩ := h
 exact ⟨ao, cap, qo, dap, so, sc, tO, tc, e, f, a1.keep hb, a2, a3, a4.keep hb, a5, a6, a7.keep hb, a8, a9.keep hb, a10⟩
theorem KI8.keep {w w' : World} {cs : List Value} {a : RA8} (h : KI8 w cs a) (hb : Below w.heap.size w w') : KI8 w' cs a := ⟨h.arg.keep hb, h.xl, h.yl, h.sl, h.tl, h.gv.keep hb⟩
theorem KArg8.len {w : World} {cs : List Value} {a : RA8} (h : KArg8 w cs a) : (Tryz.prog.info? 33).map (·.size) = some cs.length := by
 obtain ⟨ao, cap, qo, dap, so, sc, tO, tc, rfl, _⟩ := h
 exact info_r9
theorem KArg8.nine {w : World} {cs : List Value} {a : RA8} (h : KArg8 w cs a) : 9 = cs.length := by
 obtain ⟨ao, cap, qo, dap, so, sc, tO, tc, rfl, _⟩ := h
 rfl
theorem KArg8.one {w : World} {cs : List Value} {a : RA8} (h : KArg8 w cs a) : cs.toArray.all (·.oneCell') = true := by
 obtain ⟨ao, cap, qo, dap, so, sc, tO, tc, rfl, _⟩ := h
 simp [Value.oneCell']
def kOk8 (a : RA8) : Bool := rOk a.N a.k a.V a.M a.xs a.L a.ys a.S a.T
def kBN8 (a : RA8) : Int := rBN a.N a.k a.V a.M a.xs a.L a.ys a.S a.T
def kBX8 (a : RA8) : List Nat := rBX a.N a.k a.V a.M a.xs a.L a.ys a.S a.T
def kZ8 (a : RA8) : Int := rzN a.N a.k a.V a.M a.xs a.L a.ys a.S a.T
def kB8 (N : Int) (xs : List Nat) : RA8 := ⟨rbN N xs, rbK N xs, rbV N xs, rbM N xs, rbC N xs, rbL N xs, rbO N xs, rbS N xs, rbT N xs⟩
def kE8 (N : Int) (xs : List Nat) : Int := rbE N xs
theorem kB_chk8 (a : RA8) (h : kOk8 a = true) : chk (kBN8 a) (kBX8 a) = true := rB_chk _ _ _ _ _ _ _ _ _ h
theorem kB_fit8 (a : RA8) : Fit (kBX8 a) := rB_fit _ _ _ _ _ _ _ _ _
theorem onL_fit (m : Nat) (f : Nat → Bool) (G : Nat) (hG : G ≤ 1048576) : FitI (onL m f G) := by
 intro i
 by_cases c : i < G
 ·unfold onL
  rw [gi_map _ _ _ c]
  have := bon_le m f (8 * i)
  omega
 ·unfold gi
  rw [List.getD_eq_getElem?_getD, List.getElem?_eq_none (by rw [length_onL]; omega)]
  decide
theorem ptL_fit (m : Nat) (f : Nat → Bool) (G : Nat) (hG : G ≤ 1048576) : FitI (ptL m f G) := by
 intro i
 by_cases c : i < G
 ·unfold ptL
  rw [gi_map _ _ _ c]
  have := bat_le m f (8 * i)
  omega
 ·unfold gi
  rw [List.getD_eq_getElem?_getD, List.getElem?_eq_none (by rw [length_ptL]; omega)]
  decide
theorem fit_nil : Fit [] := fun i => by unfold gt; simp
theorem fitI_nil : FitI [] := fun i => by unfold gi; simp
theorem RO.ki {base : Nat} {w : World} {N : Int} {xs : List Nat} {bo : Option Addr} {bc : Nat} {qo : Option Addr} {qc : Nat} {so : Option Addr} {sc : Nat} {tO : Option Addr} {tc : Nat} (h : RO base w (rbC N xs) (rbO N xs) (rbS N xs) (rbT N xs) bo bc qo qc so sc tO tc) (G : GV w) :
  KI8 w [.int .i64 (rbN N xs), .int .i64 (rbK N xs), .int .i64 (rbV N xs), .int .i64 (rbM N xs), .slice bo (rbC N xs).length bc, .int .i64 (rbL N xs), .slice qo (rbO N xs).length qc, .slice so (rbS N xs).length sc, .slice tO (rbT N xs).length tc] (kB8 N xs) := by
 cases hk : chk N xs with
 | false =>
  have e1 : rbN N xs = 0 := by unfold rbN; rw [hk]; rfl
  have e2 : rbK N xs = 0 := by unfold rbK; rw [hk]; rfl
  have e3 : rbV N xs = 0 := by unfold rbV; rw [hk]; rfl
  have e4 : rbM N xs = 0 := by unfold rbM; rw [hk]; rfl
  have e5 : rbC N xs = [] := by unfold rbC; rw [hk]; rfl
  have e6 : rbL N xs = 0 := by unfold rbL; rw [hk]; rfl
  have e7 : rbO N xs = [] := by unfold rbO; rw [hk]; rfl
  have e8 : rbS N xs = [] := by unfold rbS; rw [hk]; rfl
  have e9 : rbT N xs = [] := by unfold rbT; rw [hk]; rfl
  unfold kB8
  rw [e5, e7, e8, e9] at h
  rw [e1, e2, e3, e4, e5, e6, e7, e8, e9]
  have z : I64 0 := by unfold I64; decide
  exact ⟨⟨bo, bc, qo, qc, so, sc, tO, tc, rfl, ⟨z, z, z, z, z, fitI_nil, fitI_nil⟩, h.c, fit_nil, h.cl, h.o, fit_nil, h.ol, h.s, h.sl, h.t, h.tl⟩, Nat.zero_le _, Nat.zero_le _, Nat.zero_le _, Nat.zero_le _, G⟩
 | true =>
  obtain ⟨h0, h1, _, _⟩ := chk_out N xs hk
  have e1 : rbN N xs = N := by unfold rbN; rw [hk]; rfl
  have e2 : rbK N xs = (nb N.toNat : Int) := by unfold rbK; rw [hk]; rfl
  have e3 : rbV N xs = 4 := by unfold rbV; rw [hk]; rfl
  have e4 : rbM N xs = (nb N.toNat : Int) * 4 := by unfold rbM; rw [hk]; rfl
  have e5 : rbC N xs = rC N.toNat (bitAt xs) := by unfold rbC; rw [hk]; rfl
  have e6 : rbL N xs = (bat N.toNat (bitAt xs) (nb N.toNat) : Int) := by unfold rbL; rw [hk]; rfl
  have e7 : rbO N xs = rO N.toNat (bitAt xs) := by unfold rbO; rw [hk]; rfl
  have e8 : rbS N xs = rS N.toNat (bitAt xs) := by unfold rbS; rw [hk]; rfl
  have e9 : rbT N xs = rT N.toNat (bitAt xs) := by unfold rbT; rw [hk]; rfl
  unfold kB8
  rw [e5, e7, e8, e9] at h
  rw [e1, e2, e3, e4, e5, e6, e7, e8, e9]
  have hn := nb_le N.toNat (by omega)
  have hb := bat_le N.toNat (bitAt xs) (nb N.toNat)
  have hg : gN N.toNat ≤ 8739 := by unfold gN; omega
  have lC : (rC N.toNat (bitAt xs)).length ≤ 1048576 := by unfold rC mkS; rw [length_rowOf, length_bclP]; omega
  have lO : (rO N.toNat (bitAt xs)).length ≤ 1048576 := by unfold rO frL; rw [length_rowOf, length_bofP]; omega
  have lS : (rS N.toNat (bitAt xs)).length ≤ 1048576 := by unfold rS; rw [length_onL]; omega
  have lT : (rT N.toNat (bitAt xs)).length ≤ 1048576 := by unfold rT; rw [length_ptL]; omega
  have hg2 : gN N.toNat ≤ 1048576 := by omega
  have fS : FitI (rS N.toNat (bitAt xs)) := by unfold rS; exact onL_fit _ _ _ hg2
  have fT : FitI (rT N.toNat (bitAt xs)) := by unfold rT; exact ptL_fit _ _ _ hg2
  have fC : Fit (rC N.toNat (bitAt xs)) := by unfold rC mkS; exact fit_rowOf _ _
  have fO : Fit (rO N.toNat (bitAt xs)) := by unfold rO frL; exact fit_rowOf _ _
  generalize rC N.toNat (bitAt xs) = C at *
  generalize rO N.toNat (bitAt xs) = O at *
  generalize rS N.toNat (bitAt xs) = S at *
  generalize rT N.toNat (bitAt xs) = T at *
  generalize bat N.toNat (bitAt xs) (nb N.toNat) = L at *
  generalize nb N.toNat = k at *
  have n1 : I64 N := ⟨by omega, by omega⟩
  have n2 : I64 (k : Int) := ⟨by omega, by omega⟩
  have n3 : I64 4 := by unfold I64; decide
  have n4 : I64 ((k : Int) * 4) := ⟨by omega, by omega⟩
  have n5 : I64 (L : Int) := ⟨by omega, by omega⟩
  exact ⟨⟨bo, bc, qo, qc, so, sc, tO, tc, rfl, ⟨n1, n2, n3, n4, n5, fS, fT⟩, h.c, fC, h.cl, h.o, fO, h.ol, h.s, h.sl, h.t, h.tl⟩, lC, lO, lS, lT, G⟩
theorem RO.nf {base : Nat} {w : World} {C O : List Nat} {S T : List Int} {bo : Option Addr} {bc : Nat} {qo : Option Addr} {qc : Nat} {so : Option Addr} {sc : Nat} {tO : Option Addr} {tc : Nat} {c0 c1 c2 c3 c4 c5 c6 : Value} {n m : Nat} (h : RO base w C O S T bo bc qo qc so sc tO tc) : NF base 7 [c0, c1, c2, c3, c4, c5, c6, .slice so n sc, .slice tO m tc] :=
 nf_mk h.sn h.tn
end Go.Proofs.YtpeecabfcgijhaaGreatDoor

namespace Go.Proofs.YtpeecabfcgijhaaGreatDoor
open Num Bit
set_option linter.unusedVariables false

def plc (f : Nat → Bool) (n : Nat) : List Nat := (List.range n).filter f
theorem plc_succ (f : Nat → Bool) (n : Nat) : plc f (n + 1) = plc f n ++ if f n then [n] else [] := by
 unfold plc
 rw [List.range_succ, List.filter_append, List.filter_cons]
 cases f n <;> simp
theorem plc_le (f : Nat → Bool) (n : Nat) : (plc f n).length ≤ n := by
 have := List.length_filter_le f (List.range n)
 rw [List.length_range] at this
 exact this
theorem mem_plc (f : Nat → Bool) (n i : Nat) : i ∈ plc f n ↔ i < n ∧ f i = true := by
 unfold plc
 rw [List.mem_filter, List.mem_range]
def Rise (l : List Nat) (n : Nat) : Prop := (∀ i, i < l.length → gt l i < n) ∧ ∀ i, i + 1 < l.length → gt l i < gt l (i + 1)
theorem gt_app_l (l m : List Nat) (i : Nat) (h : i < l.length) : gt (l ++ m) i = gt l i := by
 unfold gt
 rw [List.getD_eq_getElem?_getD, List.getD_eq_getElem?_getD, List.getElem?_append_left h]
theorem gt_app_r (l : List Nat) (v : Nat) : gt (l ++ [v]) l.length = v := by
 unfold gt
 rw [List.getD_eq_getElem?_getD, List.getElem?_append_right (Nat.le_refl _), Nat.sub_self]
 rfl
theorem Rise.snoc {l : List Nat} {n v : Nat} (h : Rise l n) (hv : v < n) (hl : 0 < l.length → gt l (l.length - 1) < v) : Rise (l ++ [v]) n := by
 constructor
 ·intro i hi
  rw [List.length_append, List.length_singleton] at hi
  by_cases c : i < l.length
  ·rw [gt_app_l l _ i c]; exact h.1 i c
  ·obtain rfl : i = l.length := by omega
   rw [gt_app_r]; exact hv
 ·intro i hi
  rw [List.length_append, List.length_singleton] at hi
  by_cases c : i + 1 < l.length
  ·rw [gt_app_l l _ i (by omega), gt_app_l l _ (i + 1) c]; exact h.2 i c
  ·have e : i + 1 = l.length := by omega
   rw [gt_app_l l _ i (by omega), e, gt_app_r]
   have := hl (by omega)
   rw [show l.length - 1 = i by omega] at this
   exact this
theorem Rise.more {l : List Nat} {n m : Nat} (h : Rise l n) (hm : n ≤ m) : Rise l m := ⟨fun i hi => Nat.lt_of_lt_of_le (h.1 i hi) hm, h.2⟩
theorem Rise.step {l : List Nat} {n : Nat} (h : Rise l n) : ∀ d i, i + d < l.length → gt l i + d ≤ gt l (i + d) := by
 intro d
 induction d with
 | zero => intro i _; exact Nat.le_refl _
 | succ d ih =>
  intro i hi
  have h1 := ih i (by omega)
  have h2 := h.2 (i + d) (by omega)
  rw [show i + (d + 1) = i + d + 1 by omega]
  omega
theorem Rise.lt {l : List Nat} {n : Nat} (h : Rise l n) {i j : Nat} (hij : i < j) (hj : j < l.length) : gt l i < gt l j := by
 have := h.step (j - i) i (by omega)
 rw [show i + (j - i) = j by omega] at this
 omega
theorem Rise.len {l : List Nat} {n : Nat} (h : Rise l n) : l.length ≤ n := by
 by_cases c : l.length = 0
 ·omega
 ·have := h.step (l.length - 1) 0 (by omega)
  have := h.1 (0 + (l.length - 1)) (by omega)
  omega
theorem plc_rise (f : Nat → Bool) (n : Nat) : Rise (plc f n) n := by
 induction n with
 | zero => exact ⟨fun i hi => absurd hi (by simp [plc]), fun i hi => absurd hi (by simp [plc])⟩
 | succ n ih =>
  rw [plc_succ]
  cases h : f n with
  | false => simp only [Bool.false_eq_true, if_false, List.append_nil]; exact ih.more (by omega)
  | true =>
   simp only [if_true]
   exact (ih.more (by omega)).snoc (by omega) (fun h0 => ih.1 _ (by omega))
def isIn (l : List Nat) (j : Nat) : Bool := (List.range l.length).any fun i => gt l i == j
theorem isIn_iff (l : List Nat) (j : Nat) : isIn l j = true ↔ ∃ i, i < l.length ∧ gt l i = j := by
 unfold isIn
 rw [List.any_eq_true]
 constructor
 ·rintro ⟨i, hi, he⟩
  exact ⟨i, List.mem_range.1 hi, by simpa using he⟩
 ·rintro ⟨i, hi, he⟩
  exact ⟨i, List.mem_range.2 hi, by simpa using he⟩
theorem isIn_snoc (l : List Nat) (v j : Nat) : isIn (l ++ [v]) j = (isIn l j || v == j) := by
 rw [Bool.eq_iff_iff, isIn_iff, Bool.or_eq_true, isIn_iff, beq_iff_eq]
 constructor
 ·rintro ⟨i, hi, he⟩
  rw [List.length_append, List.length_singleton] at hi
  by_cases c : i < l.length
  ·rw [gt_app_l l _ i c] at he; exact .inl ⟨i, c, he⟩
  ·obtain rfl : i = l.length := by omega
   rw [gt_app_r] at he; exact .inr he
 ·rintro (⟨i, hi, he⟩ | he)
  ·exact ⟨i, by rw [List.length_append]; omega, by rw [gt_app_l l _ i hi]; exact he⟩
  ·exact ⟨l.length, by simp, by rw [gt_app_r]; exact he⟩
theorem isIn_get (l : List Nat) (i : Nat) (h : i < l.length) : isIn l (gt l i) = true := (isIn_iff l _).2 ⟨i, h, rfl⟩
theorem mem_isIn (l : List Nat) (j : Nat) : isIn l j = true ↔ j ∈ l := by
 rw [isIn_iff]
 constructor
 ·rintro ⟨i, hi, rfl⟩
  unfold gt
  rw [List.getD_eq_getElem?_getD, List.getElem?_eq_getElem hi]
  exact List.getElem_mem hi
 ·intro h
  obtain ⟨i, hi, he⟩ := List.getElem_of_mem h
  exact ⟨i, hi, by unfold gt; rw [List.getD_eq_getElem?_getD, List.getElem?_eq_getElem hi]; exact he⟩
theorem rise_ext {l m : List Nat} {n : Nat} (h : Rise l n) (k : Rise m n) (e : ∀ j, isIn l j = isIn m j) : l = m := by
 have key : ∀ {l m : List Nat}, Rise l n → Rise m n → (∀ j, isIn l j = isIn m j) → ∀ i, i < l.length → i < m.length ∧ gt l i = gt m i := by
  intro l m h k e i
  induction i using Nat.strongRecOn with
  | _ i ih =>
   intro hi
   have h1 := isIn_get l i hi
   rw [e, isIn_iff] at h1
   obtain ⟨j, hj, hje⟩ := h1
   have hij : i ≤ j := by
    refine Nat.le_of_not_lt fun c => ?_
    have := ih j c (by omega)
    have h3 := h.lt c hi
    omega
   refine ⟨by omega, ?_⟩
   by_cases c : i = j
   ·subst c; exact hje.symm
   ·have h4 := isIn_get m i (by omega)
    rw [← e, isIn_iff] at h4
    obtain ⟨k', hk, hke⟩ := h4
    have hk2 := k.lt (show i < j by omega) hj
    have hki : k' < i := by
     refine Nat.lt_of_not_le fun c2 => ?_
     by_cases c3 : k' = i
     ·subst c3; omega
     ·have := h.lt (show i < k' by omega) hk; omega
    have := ih k' hki hk
    have := k.lt hki (show i < m.length by omega)
    omega
 have hl := fun i hi => key h k e i hi
 have hm := fun i hi => key k h (fun j => (e j).symm) i hi
 have hlen : l.length = m.length := by
  by_cases c : l.length ≤ m.length
  ·by_cases c2 : l.length = m.length
   ·exact c2
   ·have := (hm l.length (by omega)).1; omega
  ·have := (hl m.length (by omega)).1; omega
 exact Bit.list_ext _ _ hlen (fun i hi => (hl i hi).2)
theorem plc_of {l : List Nat} {n : Nat} (h : Rise l n) : plc (isIn l) n = l := by
 refine rise_ext (plc_rise _ n) h fun j => ?_
 rw [Bool.eq_iff_iff, mem_isIn, mem_plc, isIn_iff]
 constructor
 ·rintro ⟨_, h2⟩
  exact h2
 ·rintro ⟨i, hi, rfl⟩
  exact ⟨h.1 i hi, i, hi, rfl⟩
end Go.Proofs.YtpeecabfcgijhaaGreatDoor
