/-
  The contract of the document's Build of layer 8. What a row of one of the kinds tells, once it is known whether it may be (ok) and which bits it has (N, X): plain. Rows in blocks: when one may be, and which bits it has: plain. The contracts of the document's Check, Bits, Access, Rank and Select, over that of its Whole.
-/
import Derived.Test.YtpeecabfcgijhaaGreatDoorM07
import Derived.Deep.DeepCutAuto
import Derived.Test.YtpeecabfcgijhaaGreatDoorM01
import Derived.Test.YtpeecabfcgijhaaGreatDoorM02
namespace Go.Proofs.YtpeecabfcgijhaaGreatDoor
open Go.RowKit Num Bit Bn
set_option linter.unusedVariables false
set_option linter.unusedSimpArgs false
set_option maxRecDepth 100000

def gN (m : Nat) : Nat := (max 1 (nb m) + 7) / 8
def rC (m : Nat) (f : Nat → Bool) : List Nat := mkS (bclP m f (nb m)) 4 (nb m)
def rO (m : Nat) (f : Nat → Bool) : List Nat := frL (bofP m f (nb m))
def rS (m : Nat) (f : Nat → Bool) : List Int := onL m f (gN m)
def rT (m : Nat) (f : Nat → Bool) : List Int := ptL m f (gN m)
structure RO (base : Nat) (w : World) (C O : List Nat) (S T : List Int) (bo : Option Addr) (bc : Nat) (qo : Option Addr) (qc : Nat) (so : Option Addr) (sc : Nat) (tO : Option Addr) (tc : Nat) : Prop where
 c : Wd w bo C
 cl : C.length ≤ bc
 o : Wd w qo O
 ol : O.length ≤ qc
 s : Nd w so S
 sl : S.length ≤ sc
 t : Nd w tO T
 tl : T.length ≤ tc
 sn : Fr base so
 tn : Fr base tO
theorem RO.keep {base : Nat} {w w' : World} {C O : List Nat} {S T : List Int} {bo : Option Addr} {bc : Nat} {qo : Option Addr} {qc : Nat} {so : Option Addr} {sc : Nat} {tO : Option Addr} {tc : Nat} (h : RO base w C O S T bo bc qo qc so sc tO tc) (hb : Below w.heap.size w w') : RO base w' C O S T bo bc qo qc so sc tO tc :=
 ⟨h.c.keep hb, h.cl, h.o.keep hb, h.ol, h.s.keep hb, h.sl, h.t.keep hb, h.tl, h.sn, h.tn⟩
theorem length_onL (m : Nat) (f : Nat → Bool) (G : Nat) : (onL m f G).length = G := by simp [onL]
theorem length_ptL (m : Nat) (f : Nat → Bool) (G : Nat) : (ptL m f G).length = G := by simp [ptL]
theorem nd_own8 {w : World} {base n c : Nat} {ao : Option Addr} {l : List Int} (h : w.ownsRow base 3 1 (.slice ao n c) n (iv8 l)) : Nd w ao l := by
 intro h0
 have hlen : (iv8 l).length = n * 1 := h.1
 have hl : l.length = n := by simp [iv8] at hlen; omega
 have hk := fun k hk => h.lt k hk
 have hc := fun g hg => h.cells (g := g) hg
 obtain ⟨_, ⟨e, e2⟩ | ⟨g, cap, cur, e, _⟩⟩ := h
 ·omega
 ·simp only [Value.slice.injEq] at e
  obtain ⟨rfl, _, rfl⟩ := e
  refine ⟨g, 0, rfl, (hk g rfl).2, fun i hi => ?_⟩
  have hu : (iv8 l)[i]? = some (.int .i64 (gi l i)) := by
   unfold iv8 gi
   rw [List.getElem?_map, List.getD_eq_getElem?_getD, List.getElem?_eq_getElem hi]
   rfl
  rw [← hc g rfl i _ hu]
  unfold Addr.add
  split
  ·subst_vars; rfl
  ·simp
theorem info_r9 : (Tryz.prog.info? 33).map (·.size) = some 9 := by kernel_rfl
theorem Nd.only {g : Nat} {w w' : World} {ao : Option Addr} {l : List Int} (h : Only g w w') (hx : Nd w ao l) (hb : ∀ a, ao = some a → a.block ≠ g) : Nd w' ao l := by
 intro h0
 obtain ⟨b, off, e, hlt, hc⟩ := hx h0
 have hne := hb _ e
 exact ⟨b, off, e, by rw [h.size]; exact hlt, fun i hi => (h.cell (p := ⟨b, off + i, none⟩) hne).trans (hc i hi)⟩
theorem Hid.mk8 {p : Prop} (h : p) : Hid p := h
end Go.Proofs.YtpeecabfcgijhaaGreatDoor

namespace Go.Proofs.YtpeecabfcgijhaaGreatDoor
open Num Bit

def I64 (n : Int) : Prop := -9223372036854775808 ≤ n ∧ n ≤ 9223372036854775807
def gaE (ok : Bool) (N : Int) (X : List Nat) (i : Int) : Int := if ok then getE N X i else 2
def gaB (ok : Bool) (N : Int) (X : List Nat) (i : Int) : Bool := ok && getB N X i
def grE (ok : Bool) (N : Int) (i : Int) : Int := if ok then (if i < 0 ∨ N < i then 3 else 0) else 2
def grN (ok : Bool) (N : Int) (X : List Nat) (bit : Bool) (i : Int) : Int := if grE ok N i = 0 then (cB X bit i.toNat : Int) else 0
def gsE (ok : Bool) (N : Int) (X : List Nat) (bit : Bool) (k : Int) : Int := if ok then (if (pselO N X bit k).isSome then 0 else 3) else 2
def gsX (ok : Bool) (N : Int) (X : List Nat) (bit : Bool) (k : Int) : Int := if ok then ((pselO N X bit k).getD 0 : Int) else 0
end Go.Proofs.YtpeecabfcgijhaaGreatDoor

namespace Go.Proofs.YtpeecabfcgijhaaGreatDoor
open Num Bit Bn
set_option linter.unusedVariables false

def rDec (N k V : Int) (xs : List Nat) (L : Int) (ys : List Nat) : Option (List Bool) := decG N.toNat L ys ((List.range k.toNat).map (numAt V.toNat xs)) 0 []
def rEq (N k V M : Int) (xs : List Nat) (L : Int) (ys : List Nat) (S T : List Int) (m : Nat) (f : Nat → Bool) : Bool :=
 decide (N = m) && ((decide (k = nb m) && (decide (V = 4) && (decide (M = (nb m : Int) * 4) && decide (xs = rC m f)))) && ((decide (L = bat m f (nb m)) && decide (ys = rO m f)) && (decide (S = rS m f) && decide (T = rT m f))))
def rOk (N k V M : Int) (xs : List Nat) (L : Int) (ys : List Nat) (S T : List Int) : Bool :=
 (decide (0 ≤ N ∧ N ≤ 1048576) && (ichk k V M xs && chk L ys)) && rEq N k V M xs L ys S T (rwN (rDec N k V xs L ys)) (bitAt (rwX (rDec N k V xs L ys)))
def rBN (N k V M : Int) (xs : List Nat) (L : Int) (ys : List Nat) (S T : List Int) : Int := if rOk N k V M xs L ys S T then (rwN (rDec N k V xs L ys) : Int) else 0
def rBX (N k V M : Int) (xs : List Nat) (L : Int) (ys : List Nat) (S T : List Int) : List Nat := if rOk N k V M xs L ys S T then rwX (rDec N k V xs L ys) else []
def rzN (N k V M : Int) (xs : List Nat) (L : Int) (ys : List Nat) (S T : List Int) : Int := if rOk N k V M xs L ys S T then M + L + 64 * (S.length : Int) else 0
theorem rw_chk (o : Option (List Bool)) (h : ∀ l, o = some l → l.length ≤ 1048576) : chk (rwN o : Int) (rwX o) = true := by
 cases o with
 | none => decide
 | some l => exact chk_rowOf _ _ (h l rfl)
theorem rw_fit (o : Option (List Bool)) : Fit (rwX o) := by
 cases o with
 | none => intro i; unfold gt; simp [rwX]
 | some l => exact fit_rowOf _ _
theorem rDec_len (N k V : Int) (xs : List Nat) (L : Int) (ys : List Nat) (hN : N ≤ 1048576) : ∀ l, rDec N k V xs L ys = some l → l.length ≤ 1048576 := by
 intro l h
 have := length_decG N.toNat L ys _ 0 [] l (by simp) h
 omega
theorem rOk_out (N k V M : Int) (xs : List Nat) (L : Int) (ys : List Nat) (S T : List Int) (h : rOk N k V M xs L ys S T = true) :
  (0 ≤ N ∧ N ≤ 1048576) ∧ ichk k V M xs = true ∧ chk L ys = true ∧ rEq N k V M xs L ys S T (rwN (rDec N k V xs L ys)) (bitAt (rwX (rDec N k V xs L ys))) = true := by
 unfold rOk at h
 simp only [Bool.and_eq_true, decide_eq_true_eq] at h
 exact ⟨h.1.1, h.1.2.1, h.1.2.2, h.2⟩
theorem rB_chk (N k V M : Int) (xs : List Nat) (L : Int) (ys : List Nat) (S T : List Int) (h : rOk N k V M xs L ys S T = true) : chk (rBN N k V M xs L ys S T) (rBX N k V M xs L ys S T) = true := by
 obtain ⟨h1, _, _, _⟩ := rOk_out _ _ _ _ _ _ _ _ _ h
 unfold rBN rBX
 rw [if_pos h, if_pos h]
 exact rw_chk _ (rDec_len N k V xs L ys h1.2)
theorem rB_fit (N k V M : Int) (xs : List Nat) (L : Int) (ys : List Nat) (S T : List Int) : Fit (rBX N k V M xs L ys S T) := by
 unfold rBX
 split
 ·exact rw_fit _
 ·intro i; unfold gt; simp
theorem rEq_out (N k V M : Int) (xs : List Nat) (L : Int) (ys : List Nat) (S T : List Int) (m : Nat) (f : Nat → Bool) (h : rEq N k V M xs L ys S T m f = true) :
  N = m ∧ k = nb m ∧ V = 4 ∧ M = (nb m : Int) * 4 ∧ xs = rC m f ∧ L = bat m f (nb m) ∧ ys = rO m f ∧ S = rS m f ∧ T = rT m f := by
 unfold rEq at h
 simp only [Bool.and_eq_true, decide_eq_true_eq] at h
 obtain ⟨h1, ⟨h2, h3, h4, h5⟩, ⟨h6, h7⟩, h8, h9⟩ := h
 exact ⟨h1, h2, h3, h4, h5, h6, h7, h8, h9⟩
theorem rEq_self (m : Nat) (f : Nat → Bool) : rEq m (nb m) 4 ((nb m : Int) * 4) (rC m f) (bat m f (nb m)) (rO m f) (rS m f) (rT m f) m f = true := by
 unfold rEq
 simp
theorem rDec_built (m : Nat) (f : Nat → Bool) (hm : m ≤ 1048576) : rDec m (nb m) 4 (rC m f) (bat m f (nb m)) (rO m f) = some ((List.range m).map f) := by
 unfold rDec rC rO
 rw [Int.toNat_natCast, Int.toNat_natCast]
 exact dec_built m f hm
end Go.Proofs.YtpeecabfcgijhaaGreatDoor

namespace Go.Proofs.YtpeecabfcgijhaaGreatDoor
open Go.RowKit Num Bit
set_option linter.unusedVariables false
set_option linter.unusedSimpArgs false
set_option maxRecDepth 100000

theorem r8info_b : (Tryz.prog.info? 24).map (·.size) = some 2 := by kernel_rfl
end Go.Proofs.YtpeecabfcgijhaaGreatDoor
