/-
  The contract of the document's Build of layer 8. What a row of one of the kinds tells, once it is known whether it may be (ok) and which bits it has (N, X): plain. Rows in blocks: when one may be, and which bits it has: plain. The contracts of the document's Check, Bits, Access, Rank and Select, over that of its Whole. The contracts of the document's Build, Whole and Size of layer 8. The two tables of package rrr, as the program's text lays them: how many bits an offset of each class has, and how many blocks of each class there are. Rows in blocks as objects: their cells are not looked into but here. The contracts of the document's functions over them.
-/
import Derived.Test.YtfnkklkdajlhlaaGreatDoorC04
import Derived.Deep.DeepCutAuto
import Derived.Test.YtfnkklkdajlhlaaGreatDoorC00
import Derived.Test.YtfnkklkdajlhlaaGreatDoorC01
import Derived.Test.YtfnkklkdajlhlaaGreatDoorC03
import Derived.Test.YtfnkklkdajlhlaaGreatDoorC02
set_option linter.unusedVariables false
set_option linter.unusedSimpArgs false
set_option maxRecDepth 100000
set_option maxHeartbeats 16000000
namespace Go.Proofs.YtfnkklkdajlhlaaGreatDoor
open Go.RowKit Num Bit Bn
def gN (m : Nat) : Nat := (max 1 (nb m) + 7) / 8
def rC (m : Nat) (f : Nat → Bool) : List Nat := mkS (bclP m f (nb m)) 4 (nb m)
def rO (m : Nat) (f : Nat → Bool) : List Nat := frL (bofP m f (nb m))
def rS (m : Nat) (f : Nat → Bool) : List Int := onL m f (gN m)
def rT (m : Nat) (f : Nat → Bool) : List Int := ptL m f (gN m)
structure RO (base : Nat) (w : World) (C O : List Nat) (S T : List Int) (bo : Option Addr) (bc : Nat) (qo : Option Addr) (qc : Nat) (so : Option Addr) (sc : Nat) (tO : Option Addr) (tc : Nat) : Prop where
 c : Wd w bo C
 cl : C.length ≤ bc
 o : Wd w qo O
 ol : O.length ≤ qc
 s : Nd w so S
 sl : S.length ≤ sc
 t : Nd w tO T
 tl : T.length ≤ tc
 sn : Fr base so
 tn : Fr base tO
theorem length_onL (m : Nat) (f : Nat → Bool) (G : Nat) : (onL m f G).length = G := by simp [onL]
theorem length_ptL (m : Nat) (f : Nat → Bool) (G : Nat) : (ptL m f G).length = G := by simp [ptL]
theorem nd_own8 {w : World} {base n c : Nat} {ao : Option Addr} {l : List Int} (h : w.ownsRow base 3 1 (.slice ao n c) n (iv8 l)) : Nd w ao l := by
 intro h0
 have hlen : (iv8 l).length = n * 1 := h.1
 have hl : l.length = n := by simp [iv8] at hlen; omega
 have hk := fun k hk => h.lt k hk
 have hc := fun g hg => h.cells (g := g) hg
 obtain ⟨_, ⟨e, e2⟩ | ⟨g, cap, cur, e, _⟩⟩ := h
 ·omega
 ·simp only [Value.slice.injEq] at e
  obtain ⟨rfl, _, rfl⟩ := e
  refine ⟨g, 0, rfl, (hk g rfl).2, fun i hi => ?_⟩
  have hu : (iv8 l)[i]? = some (.int .i64 (gi l i)) := by
   unfold iv8 gi
   rw [List.getElem?_map, List.getD_eq_getElem?_getD, List.getElem?_eq_getElem hi]
   rfl
  rw [← hc g rfl i _ hu]
  unfold Addr.add
  split
  ·subst_vars; rfl
  ·simp
theorem info_r9 : (Tryz.prog.info? 41).map (·.size) = some 9 := by kernel_rfl
theorem Hid.mk8 {p : Prop} (h : p) : Hid p := h
end Go.Proofs.YtfnkklkdajlhlaaGreatDoor
namespace Go.Proofs.YtfnkklkdajlhlaaGreatDoor
open Num Bit
def I64 (n : Int) : Prop := -9223372036854775808 ≤ n ∧ n ≤ 9223372036854775807
def gaE (ok : Bool) (N : Int) (X : List Nat) (i : Int) : Int := if ok then getE N X i else 2
def gaB (ok : Bool) (N : Int) (X : List Nat) (i : Int) : Bool := ok && getB N X i
def grE (ok : Bool) (N : Int) (i : Int) : Int := if ok then (if i < 0 ∨ N < i then 3 else 0) else 2
def grN (ok : Bool) (N : Int) (X : List Nat) (bit : Bool) (i : Int) : Int := if grE ok N i = 0 then (cB X bit i.toNat : Int) else 0
def gsE (ok : Bool) (N : Int) (X : List Nat) (bit : Bool) (k : Int) : Int := if ok then (if (pselO N X bit k).isSome then 0 else 3) else 2
def gsX (ok : Bool) (N : Int) (X : List Nat) (bit : Bool) (k : Int) : Int := if ok then ((pselO N X bit k).getD 0 : Int) else 0
end Go.Proofs.YtfnkklkdajlhlaaGreatDoor
namespace Go.Proofs.YtfnkklkdajlhlaaGreatDoor
open Num Bit Bn
def rDec (N k V : Int) (xs : List Nat) (L : Int) (ys : List Nat) : Option (List Bool) := decG N.toNat L ys ((List.range k.toNat).map (numAt V.toNat xs)) 0 []
def rEq (N k V M : Int) (xs : List Nat) (L : Int) (ys : List Nat) (S T : List Int) (m : Nat) (f : Nat → Bool) : Bool :=
 decide (N = m) && ((decide (k = nb m) && (decide (V = 4) && (decide (M = (nb m : Int) * 4) && decide (xs = rC m f)))) && ((decide (L = bat m f (nb m)) && decide (ys = rO m f)) && (decide (S = rS m f) && decide (T = rT m f))))
def rOk (N k V M : Int) (xs : List Nat) (L : Int) (ys : List Nat) (S T : List Int) : Bool :=
 (decide (0 ≤ N ∧ N ≤ 1048576) && (ichk k V M xs && chk L ys)) && rEq N k V M xs L ys S T (rwN (rDec N k V xs L ys)) (bitAt (rwX (rDec N k V xs L ys)))
def rBN (N k V M : Int) (xs : List Nat) (L : Int) (ys : List Nat) (S T : List Int) : Int := if rOk N k V M xs L ys S T then (rwN (rDec N k V xs L ys) : Int) else 0
def rBX (N k V M : Int) (xs : List Nat) (L : Int) (ys : List Nat) (S T : List Int) : List Nat := if rOk N k V M xs L ys S T then rwX (rDec N k V xs L ys) else []
def rzN (N k V M : Int) (xs : List Nat) (L : Int) (ys : List Nat) (S T : List Int) : Int := if rOk N k V M xs L ys S T then M + L + 64 * (S.length : Int) else 0
theorem rw_chk (o : Option (List Bool)) (h : ∀ l, o = some l → l.length ≤ 1048576) : chk (rwN o : Int) (rwX o) = true := by
 cases o with
 | none => decide
 | some l => exact chk_rowOf _ _ (h l rfl)
theorem rw_fit (o : Option (List Bool)) : Fit (rwX o) := by
 cases o with
 | none => intro i; unfold gt; simp [rwX]
 | some l => exact fit_rowOf _ _
theorem rDec_len (N k V : Int) (xs : List Nat) (L : Int) (ys : List Nat) (hN : N ≤ 1048576) : ∀ l, rDec N k V xs L ys = some l → l.length ≤ 1048576 := by
 intro l h
 have := length_decG N.toNat L ys _ 0 [] l (by simp) h
 omega
theorem rOk_out (N k V M : Int) (xs : List Nat) (L : Int) (ys : List Nat) (S T : List Int) (h : rOk N k V M xs L ys S T = true) :
  (0 ≤ N ∧ N ≤ 1048576) ∧ ichk k V M xs = true ∧ chk L ys = true ∧ rEq N k V M xs L ys S T (rwN (rDec N k V xs L ys)) (bitAt (rwX (rDec N k V xs L ys))) = true := by
 unfold rOk at h
 simp only [Bool.and_eq_true, decide_eq_true_eq] at h
 exact ⟨h.1.1, h.1.2.1, h.1.2.2, h.2⟩
theorem rB_chk (N k V M : Int) (xs : List Nat) (L : Int) (ys : List Nat) (S T : List Int) (h : rOk N k V M xs L ys S T = true) : chk (rBN N k V M xs L ys S T) (rBX N k V M xs L ys S T) = true := by
 obtain ⟨h1, _, _, _⟩ := rOk_out _ _ _ _ _ _ _ _ _ h
 unfold rBN rBX
 rw [if_pos h, if_pos h]
 exact rw_chk _ (rDec_len N k V xs L ys h1.2)
theorem rB_fit (N k V M : Int) (xs : List Nat) (L : Int) (ys : List Nat) (S T : List Int) : Fit (rBX N k V M xs L ys S T) := by
 unfold rBX
 split
 ·exact rw_fit _
 ·intro i; unfold gt; simp
theorem rEq_out (N k V M : Int) (xs : List Nat) (L : Int) (ys : List Nat) (S T : List Int) (m : Nat) (f : Nat → Bool) (h : rEq N k V M xs L ys S T m f = true) :
  N = m ∧ k = nb m ∧ V = 4 ∧ M = (nb m : Int) * 4 ∧ xs = rC m f ∧ L = bat m f (nb m) ∧ ys = rO m f ∧ S = rS m f ∧ T = rT m f := by
 unfold rEq at h
 simp only [Bool.and_eq_true, decide_eq_true_eq] at h
 obtain ⟨h1, ⟨h2, h3, h4, h5⟩, ⟨h6, h7⟩, h8, h9⟩ := h
 exact ⟨h1, h2, h3, h4, h5, h6, h7, h8, h9⟩
theorem rEq_self (m : Nat) (f : Nat → Bool) : rEq m (nb m) 4 ((nb m : Int) * 4) (rC m f) (bat m f (nb m)) (rO m f) (rS m f) (rT m f) m f = true := by
 unfold rEq
 simp
theorem rDec_built (m : Nat) (f : Nat → Bool) (hm : m ≤ 1048576) : rDec m (nb m) 4 (rC m f) (bat m f (nb m)) (rO m f) = some ((List.range m).map f) := by
 unfold rDec rC rO
 rw [Int.toNat_natCast, Int.toNat_natCast]
 exact dec_built m f hm
end Go.Proofs.YtfnkklkdajlhlaaGreatDoor
namespace Go.Proofs.YtfnkklkdajlhlaaGreatDoor
open Go.RowKit Num Bit
theorem r8info_b : (Tryz.prog.info? 33).map (·.size) = some 2 := by kernel_rfl
end Go.Proofs.YtfnkklkdajlhlaaGreatDoor
namespace Go.Proofs.YtfnkklkdajlhlaaGreatDoor
open Go.RowKit Num Bit Bn
def rbN (N : Int) (xs : List Nat) : Int := if chk N xs then N else 0
def rbK (N : Int) (xs : List Nat) : Int := if chk N xs then (nb N.toNat : Int) else 0
def rbV (N : Int) (xs : List Nat) : Int := if chk N xs then 4 else 0
def rbM (N : Int) (xs : List Nat) : Int := if chk N xs then (nb N.toNat : Int) * 4 else 0
def rbC (N : Int) (xs : List Nat) : List Nat := if chk N xs then rC N.toNat (bitAt xs) else []
def rbL (N : Int) (xs : List Nat) : Int := if chk N xs then (bat N.toNat (bitAt xs) (nb N.toNat) : Int) else 0
def rbO (N : Int) (xs : List Nat) : List Nat := if chk N xs then rO N.toNat (bitAt xs) else []
def rbS (N : Int) (xs : List Nat) : List Int := if chk N xs then rS N.toNat (bitAt xs) else []
def rbT (N : Int) (xs : List Nat) : List Int := if chk N xs then rT N.toNat (bitAt xs) else []
def rbE (N : Int) (xs : List Nat) : Int := if chk N xs then 0 else 2
structure RIn (w : World) (N k V M : Int) (ao : Option Addr) (xs : List Nat) (cap : Nat) (L : Int) (qo : Option Addr) (ys : List Nat) (dap : Nat) (so : Option Addr) (S : List Int) (sc : Nat) (tO : Option Addr) (T : List Int) (tc : Nat) : Prop where
 x : Wd w ao xs
 xf : Fit xs
 xc : xs.length ≤ cap
 y : Wd w qo ys
 yf : Fit ys
 yc : ys.length ≤ dap
 s : Nd w so S
 sl : S.length ≤ 1048576
 sc : S.length ≤ sc
 t : Nd w tO T
 tl : T.length ≤ 1048576
 tc : T.length ≤ tc
def Tb (w : World) (b : Nat) (cs : List Value) : Prop := ∃ T, Cel w b cs T
theorem Tb.lt {w : World} {b : Nat} {cs : List Value} (h : Tb w b cs) : b < w.heap.size := by
 obtain ⟨T, h⟩ := h
 exact h.lt
theorem Tb.cell {w : World} {b : Nat} {cs : List Value} (h : Tb w b cs) (i : Nat) {v : Value} (hv : cs[i]? = some v) : w.cell? ⟨b, i, none⟩ = some v := by
 obtain ⟨T, h⟩ := h
 exact h.cell i hv
theorem Tb.keep {w w' : World} {b base : Nat} {cs : List Value} (h : Tb w b cs) (hb : Below base w w') (hlt : b < base) : Tb w' b cs := by
 obtain ⟨T, h⟩ := h
 exact ⟨T, h.keep hb hlt⟩
theorem Tb.kept {w w' : World} {b : Nat} {cs : List Value} (h : Tb w b cs) (hb : Below w.heap.size w w') : Tb w' b cs := h.keep hb h.lt
theorem Tb.other {w : World} {b : Nat} {cs : List Value} (h : Tb w b cs) {a : Addr} (ha : b ≠ a.block) (v : Value) : Tb (w.setCell a v) b cs := by
 obtain ⟨T, h⟩ := h
 exact ⟨T, h.other ha v⟩
def vI (l : List Nat) : List Value := l.map fun n : Nat => Value.int .i64 (n : Int)
theorem vI_get (l : List Nat) (i : Nat) (h : i < l.length) : (vI l)[i]? = some (.int .i64 (gt l i)) := by
 unfold vI
 rw [List.getElem?_map, gt_get l i h]
 rfl
theorem wv_get' (l : List Nat) (i : Nat) (h : i < l.length) : (wv l)[i]? = some (.int .u64 (gt l i)) := by
 unfold wv
 rw [List.getElem?_map, gt_get l i h]
 rfl
def wdL : List Nat := [0, 4, 7, 9, 11, 12, 13, 13, 13, 13, 12, 11, 9, 7, 4, 0]
def chL : List Nat := [1, 15, 105, 455, 1365, 3003, 5005, 6435, 6435, 5005, 3003, 1365, 455, 105, 15, 1]
theorem length_wdL : wdL.length = 16 := rfl
theorem length_chL : chL.length = 16 := rfl
theorem gt_wdL (c : Nat) (h : c ≤ 15) : gt wdL c = kwd c := by
 match c, h with
 | 0, _ | 1, _ | 2, _ | 3, _ | 4, _ | 5, _ | 6, _ | 7, _ | 8, _ | 9, _ | 10, _ | 11, _ | 12, _ | 13, _ | 14, _ | 15, _ => decide +kernel
theorem gt_chL (c : Nat) (h : c ≤ 15) : gt chL c = ch 15 c := by
 match c, h with
 | 0, _ | 1, _ | 2, _ | 3, _ | 4, _ | 5, _ | 6, _ | 7, _ | 8, _ | 9, _ | 10, _ | 11, _ | 12, _ | 13, _ | 14, _ | 15, _ => decide +kernel
structure GV (w : World) : Prop where
 wd : Tb w 1 (vI wdL)
 wy : Tb w 0 (wv chL)
theorem GV.keep {w w' : World} (h : GV w) (hb : Below w.heap.size w w') : GV w' := ⟨h.wd.kept hb, h.wy.kept hb⟩
theorem GV.kept {w w' : World} (h : GV w) (hb : Below w.heap.size w w') : GV w' := h.keep hb
theorem GV.two {w : World} (h : GV w) : 1 < w.heap.size := by
 have := h.wd.lt
 have := h.wy.lt
 omega
structure RA8 where
 N : Int
 k : Int
 V : Int
 M : Int
 xs : List Nat
 L : Int
 ys : List Nat
 S : List Int
 T : List Int
def KArg8 (w : World) (cs : List Value) (a : RA8) : Prop := ∃ ao cap qo dap so sc tO tc, cs = [.int .i64 a.N, .int .i64 a.k, .int .i64 a.V, .int .i64 a.M, .slice ao a.xs.length cap, .int .i64 a.L, .slice qo a.ys.length dap, .slice so a.S.length sc, .slice tO a.T.length tc] ∧ (I64 a.N ∧ I64 a.k ∧ I64 a.V ∧ I64 a.M ∧ I64 a.L ∧ FitI a.S ∧ FitI a.T) ∧ Wd w ao a.xs ∧ Fit a.xs ∧ a.xs.length ≤ cap ∧ Wd w qo a.ys ∧ Fit a.ys ∧ a.ys.length ≤ dap ∧ Nd w so a.S ∧ a.S.length ≤ sc ∧ Nd w tO a.T ∧ a.T.length ≤ tc
structure KI8 (w : World) (cs : List Value) (a : RA8) : Prop where
 arg : KArg8 w cs a
 xl : a.xs.length ≤ 1048576
 yl : a.ys.length ≤ 1048576
 sl : a.S.length ≤ 1048576
 tl : a.T.length ≤ 1048576
 gv : GV w
theorem KArg8.keep {w w' : World} {cs : List Value} {a : RA8} (h : KArg8 w cs a) (hb : Below w.heap.size w w') : KArg8 w' cs a := by
 obtain ⟨ao, cap, qo, dap, so, sc, tO, tc, e, f, a1, a2, a3, a4, a5, a6, a7, a8, a9, a10⟩ := h
 exact ⟨ao, cap, qo, dap, so, sc, tO, tc, e, f, a1.keep hb, a2, a3, a4.keep hb, a5, a6, a7.keep hb, a8, a9.keep hb, a10⟩
theorem KI8.keep {w w' : World} {cs : List Value} {a : RA8} (h : KI8 w cs a) (hb : Below w.heap.size w w') : KI8 w' cs a := ⟨h.arg.keep hb, h.xl, h.yl, h.sl, h.tl, h.gv.keep hb⟩
theorem KArg8.len {w : World} {cs : List Value} {a : RA8} (h : KArg8 w cs a) : (Tryz.prog.info? 41).map (·.size) = some cs.length := by
 obtain ⟨ao, cap, qo, dap, so, sc, tO, tc, rfl, _⟩ := h
 exact info_r9
theorem KArg8.nine {w : World} {cs : List Value} {a : RA8} (h : KArg8 w cs a) : 9 = cs.length := by
 obtain ⟨ao, cap, qo, dap, so, sc, tO, tc, rfl, _⟩ := h
 rfl
theorem KArg8.one {w : World} {cs : List Value} {a : RA8} (h : KArg8 w cs a) : cs.toArray.all (·.oneCell') = true := by
 obtain ⟨ao, cap, qo, dap, so, sc, tO, tc, rfl, _⟩ := h
 simp [Value.oneCell']
def kOk8 (a : RA8) : Bool := rOk a.N a.k a.V a.M a.xs a.L a.ys a.S a.T
def kBN8 (a : RA8) : Int := rBN a.N a.k a.V a.M a.xs a.L a.ys a.S a.T
def kBX8 (a : RA8) : List Nat := rBX a.N a.k a.V a.M a.xs a.L a.ys a.S a.T
def kZ8 (a : RA8) : Int := rzN a.N a.k a.V a.M a.xs a.L a.ys a.S a.T
def kB8 (N : Int) (xs : List Nat) : RA8 := ⟨rbN N xs, rbK N xs, rbV N xs, rbM N xs, rbC N xs, rbL N xs, rbO N xs, rbS N xs, rbT N xs⟩
def kE8 (N : Int) (xs : List Nat) : Int := rbE N xs
theorem kB_chk8 (a : RA8) (h : kOk8 a = true) : chk (kBN8 a) (kBX8 a) = true := rB_chk _ _ _ _ _ _ _ _ _ h
theorem kB_fit8 (a : RA8) : Fit (kBX8 a) := rB_fit _ _ _ _ _ _ _ _ _
theorem onL_fit (m : Nat) (f : Nat → Bool) (G : Nat) (hG : G ≤ 1048576) : FitI (onL m f G) := by
 intro i
 by_cases c : i < G
 ·unfold onL
  rw [gi_map _ _ _ c]
  have := bon_le m f (8 * i)
  omega
 ·unfold gi
  rw [List.getD_eq_getElem?_getD, List.getElem?_eq_none (by rw [length_onL]; omega)]
  decide
theorem ptL_fit (m : Nat) (f : Nat → Bool) (G : Nat) (hG : G ≤ 1048576) : FitI (ptL m f G) := by
 intro i
 by_cases c : i < G
 ·unfold ptL
  rw [gi_map _ _ _ c]
  have := bat_le m f (8 * i)
  omega
 ·unfold gi
  rw [List.getD_eq_getElem?_getD, List.getElem?_eq_none (by rw [length_ptL]; omega)]
  decide
theorem fit_nil : Fit [] := fun i => by unfold gt; simp
theorem fitI_nil : FitI [] := fun i => by unfold gi; simp
theorem RO.ki {base : Nat} {w : World} {N : Int} {xs : List Nat} {bo : Option Addr} {bc : Nat} {qo : Option Addr} {qc : Nat} {so : Option Addr} {sc : Nat} {tO : Option Addr} {tc : Nat} (h : RO base w (rbC N xs) (rbO N xs) (rbS N xs) (rbT N xs) bo bc qo qc so sc tO tc) (G : GV w) :
  KI8 w [.int .i64 (rbN N xs), .int .i64 (rbK N xs), .int .i64 (rbV N xs), .int .i64 (rbM N xs), .slice bo (rbC N xs).length bc, .int .i64 (rbL N xs), .slice qo (rbO N xs).length qc, .slice so (rbS N xs).length sc, .slice tO (rbT N xs).length tc] (kB8 N xs) := by
 cases hk : chk N xs with
 | false =>
  have e1 : rbN N xs = 0 := by unfold rbN; rw [hk]; rfl
  have e2 : rbK N xs = 0 := by unfold rbK; rw [hk]; rfl
  have e3 : rbV N xs = 0 := by unfold rbV; rw [hk]; rfl
  have e4 : rbM N xs = 0 := by unfold rbM; rw [hk]; rfl
  have e5 : rbC N xs = [] := by unfold rbC; rw [hk]; rfl
  have e6 : rbL N xs = 0 := by unfold rbL; rw [hk]; rfl
  have e7 : rbO N xs = [] := by unfold rbO; rw [hk]; rfl
  have e8 : rbS N xs = [] := by unfold rbS; rw [hk]; rfl
  have e9 : rbT N xs = [] := by unfold rbT; rw [hk]; rfl
  unfold kB8
  rw [e5, e7, e8, e9] at h
  rw [e1, e2, e3, e4, e5, e6, e7, e8, e9]
  have z : I64 0 := by unfold I64; decide
  exact ⟨⟨bo, bc, qo, qc, so, sc, tO, tc, rfl, ⟨z, z, z, z, z, fitI_nil, fitI_nil⟩, h.c, fit_nil, h.cl, h.o, fit_nil, h.ol, h.s, h.sl, h.t, h.tl⟩, Nat.zero_le _, Nat.zero_le _, Nat.zero_le _, Nat.zero_le _, G⟩
 | true =>
  obtain ⟨h0, h1, _, _⟩ := chk_out N xs hk
  have e1 : rbN N xs = N := by unfold rbN; rw [hk]; rfl
  have e2 : rbK N xs = (nb N.toNat : Int) := by unfold rbK; rw [hk]; rfl
  have e3 : rbV N xs = 4 := by unfold rbV; rw [hk]; rfl
  have e4 : rbM N xs = (nb N.toNat : Int) * 4 := by unfold rbM; rw [hk]; rfl
  have e5 : rbC N xs = rC N.toNat (bitAt xs) := by unfold rbC; rw [hk]; rfl
  have e6 : rbL N xs = (bat N.toNat (bitAt xs) (nb N.toNat) : Int) := by unfold rbL; rw [hk]; rfl
  have e7 : rbO N xs = rO N.toNat (bitAt xs) := by unfold rbO; rw [hk]; rfl
  have e8 : rbS N xs = rS N.toNat (bitAt xs) := by unfold rbS; rw [hk]; rfl
  have e9 : rbT N xs = rT N.toNat (bitAt xs) := by unfold rbT; rw [hk]; rfl
  unfold kB8
  rw [e5, e7, e8, e9] at h
  rw [e1, e2, e3, e4, e5, e6, e7, e8, e9]
  have hn := nb_le N.toNat (by omega)
  have hb := bat_le N.toNat (bitAt xs) (nb N.toNat)
  have hg : gN N.toNat ≤ 8739 := by unfold gN; omega
  have lC : (rC N.toNat (bitAt xs)).length ≤ 1048576 := by unfold rC mkS; rw [length_rowOf, length_bclP]; omega
  have lO : (rO N.toNat (bitAt xs)).length ≤ 1048576 := by unfold rO frL; rw [length_rowOf, length_bofP]; omega
  have lS : (rS N.toNat (bitAt xs)).length ≤ 1048576 := by unfold rS; rw [length_onL]; omega
  have lT : (rT N.toNat (bitAt xs)).length ≤ 1048576 := by unfold rT; rw [length_ptL]; omega
  have hg2 : gN N.toNat ≤ 1048576 := by omega
  have fS : FitI (rS N.toNat (bitAt xs)) := by unfold rS; exact onL_fit _ _ _ hg2
  have fT : FitI (rT N.toNat (bitAt xs)) := by unfold rT; exact ptL_fit _ _ _ hg2
  have fC : Fit (rC N.toNat (bitAt xs)) := by unfold rC mkS; exact fit_rowOf _ _
  have fO : Fit (rO N.toNat (bitAt xs)) := by unfold rO frL; exact fit_rowOf _ _
  generalize rC N.toNat (bitAt xs) = C at *
  generalize rO N.toNat (bitAt xs) = O at *
  generalize rS N.toNat (bitAt xs) = S at *
  generalize rT N.toNat (bitAt xs) = T at *
  generalize bat N.toNat (bitAt xs) (nb N.toNat) = L at *
  generalize nb N.toNat = k at *
  have n1 : I64 N := ⟨by omega, by omega⟩
  have n2 : I64 (k : Int) := ⟨by omega, by omega⟩
  have n3 : I64 4 := by unfold I64; decide
  have n4 : I64 ((k : Int) * 4) := ⟨by omega, by omega⟩
  have n5 : I64 (L : Int) := ⟨by omega, by omega⟩
  exact ⟨⟨bo, bc, qo, qc, so, sc, tO, tc, rfl, ⟨n1, n2, n3, n4, n5, fS, fT⟩, h.c, fC, h.cl, h.o, fO, h.ol, h.s, h.sl, h.t, h.tl⟩, lC, lO, lS, lT, G⟩
theorem RO.nf {base : Nat} {w : World} {C O : List Nat} {S T : List Int} {bo : Option Addr} {bc : Nat} {qo : Option Addr} {qc : Nat} {so : Option Addr} {sc : Nat} {tO : Option Addr} {tc : Nat} {c0 c1 c2 c3 c4 c5 c6 : Value} {n m : Nat} (h : RO base w C O S T bo bc qo qc so sc tO tc) : NF base 7 [c0, c1, c2, c3, c4, c5, c6, .slice so n sc, .slice tO m tc] :=
 nf_mk h.sn h.tn
end Go.Proofs.YtfnkklkdajlhlaaGreatDoor
