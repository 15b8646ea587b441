/-
  Plain: what rows need. Plain: the order of a text's ends; a row that is sorted is one alone; beginnings of twice the length. Memory of layers 17 and 18: bytes and numbers in slices, blocks of one's own, what stays of them, arguments opened, bytes as a string.
-/
import Derived.Test.YtcaalcjcpddhaaaGreatS00
import Derived.WalkSmall
import Derived.ProofKit
import Derived.OpenShut
import Derived.OwnWalk
import Derived.Lib.SmallJoins
import Derived.Lib.SlBytesConst
import Derived.Laws.BytesArg
import Derived.Laws.Rows
import Derived.Laws.Tables
import Derived.Deep.AppendLies
import Derived.Deep.Strs
set_option linter.unusedVariables false
set_option linter.unusedSimpArgs false
set_option maxRecDepth 100000
namespace Go.Proofs.YtcaalcjcpddhaaaGreat.Zz.Pn
def up (n b : Nat) : Nat := (n + b - 1) / b
def fw (n m : Nat) : Nat := if 0 < m then Go.bitLen (n / m) - 1 else 0
def fano (n m : Nat) : Nat := m * fw n m + m + n / 2 ^ fw n m + 1 + 64
def row (k : Int) (n m : Nat) : Nat := if k = 1 then n + 32 * (n / 512 + 1) + 16 * up n 64 else if k = 2 then 17 * up n 15 + 64 * max 1 (up (up n 15) 8) else if k = 3 then fano n m else 0
def rowI (k n m : Int) : Nat := if 0 ≤ n ∧ n ≤ 1048576 ∧ 0 ≤ m ∧ m ≤ n then row k n.toNat m.toNat else 0
theorem up_le (n b : Nat) (hb : 0 < b) : up n b ≤ n := by
 unfold up
 rw [Nat.div_le_iff_le_mul_add_pred hb]
 have : n ≤ b * n := Nat.le_mul_of_pos_left n hb
 omega
theorem fw_le {n m : Nat} (hn : n ≤ 1048576) : fw n m ≤ 20 := by
 unfold fw
 split
 ·have h1 : n / m ≤ n := Nat.div_le_self _ _
  have e : (2 : Nat) ^ 21 = 2097152 := by decide
  have := Num.len_le (n / m) 21 (by omega)
  omega
 ·omega
theorem fano_le {n m : Nat} (hn : n ≤ 1048576) (hm : m ≤ n) : fano n m ≤ 22 * n + 65 := by
 unfold fano
 have h1 := Nat.mul_le_mul_left m (fw_le (n := n) (m := m) hn)
 have h2 : n / 2 ^ fw n m ≤ n := Nat.div_le_self _ _
 omega
end Go.Proofs.YtcaalcjcpddhaaaGreat.Zz.Pn
namespace Go.Proofs.YtcaalcjcpddhaaaGreat.Zz
open Go.ChangeShapes Go.WideShapes Go.ChangeAt Go.RowKit Go.Joins Go.Deep
theorem hide {p : Prop} (h : p) : Hid p := h
theorem ret_bool {a b : Bool} (h : a = b) : Ending.returned (.bool a) = .returned (.bool b) := by rw [h]
theorem ret_int {k : IntKind} {a b : Int} (h : a = b) : Ending.returned (.int k a) = .returned (.int k b) := by rw [h]
def Bytes (l : List Nat) : Prop := ∀ x ∈ l, x < 256
theorem i64_wf (x : Int) (h : (Lit.int .i64 x).wf = true) : -9223372036854775808 ≤ x ∧ x ≤ 9223372036854775807 := by
 simp only [Lit.wf, IntKind.min, IntKind.max, IntKind.signed, IntKind.bits, Bool.and_eq_true, decide_eq_true_eq] at h
 simp at h
 omega
def gt (xs : List Nat) (i : Nat) : Nat := xs.getD i 0
theorem gt_get (xs : List Nat) (i : Nat) (h : i < xs.length) : xs[i]? = some (gt xs i) := by
 unfold gt
 rw [List.getD_eq_getElem?_getD, List.getElem?_eq_getElem h]; rfl
def Bd (w : World) (ao : Option Addr) (xs : List Nat) : Prop :=
 0 < xs.length → ∃ b off, ao = some ⟨b, off, none⟩ ∧ b < w.heap.size ∧ ∀ i, i < xs.length → w.cell? ⟨b, off + i, none⟩ = some (.int .u8 (gt xs i))
theorem Bd.keep {w w' : World} {ao : Option Addr} {xs : List Nat} (h : Bd w ao xs) (hb : Below w.heap.size w w') : Bd w' ao xs := by
 intro hi
 obtain ⟨b, off, e, hlt, hc⟩ := h hi
 exact ⟨b, off, e, Nat.lt_of_lt_of_le hlt hb.size, fun i hi => (hb.cell (p := ⟨b, off + i, none⟩) hlt).trans (hc i hi)⟩
theorem Bd.take {w : World} {ao : Option Addr} {xs : List Nat} (h : Bd w ao xs) (n : Nat) (hn : n ≤ xs.length) : Bd w ao (xs.take n) := by
 intro h0
 obtain ⟨b, off, e, hlt, hc⟩ := h (by simp at h0; omega)
 refine ⟨b, off, e, hlt, fun i hi => ?_⟩
 have hi2 : i < n := by simp at hi; omega
 rw [hc i (by omega)]
 unfold gt
 rw [List.getD_eq_getElem?_getD, List.getD_eq_getElem?_getD, List.getElem?_take_of_lt hi2]
theorem below_alloc (w : World) (o : Obj) : Below w.heap.size w (w.alloc o) := (Below.refl _ _).alloc (Nat.le_refl _) _
theorem laidOut : laidOutB Tryz.prog = true := by kernel_rfl
def gi (l : List Int) (i : Nat) : Int := l.getD i 0
def Nd (w : World) (ao : Option Addr) (l : List Int) : Prop :=
 0 < l.length → ∃ b off, ao = some ⟨b, off, none⟩ ∧ b < w.heap.size ∧ ∀ i, i < l.length → w.cell? ⟨b, off + i, none⟩ = some (.int .i64 (gi l i))
theorem Nd.keep {w w' : World} {ao : Option Addr} {l : List Int} (h : Nd w ao l) (hb : Below w.heap.size w w') : Nd w' ao l := by
 intro hi
 obtain ⟨b, off, e, hlt, hc⟩ := h hi
 exact ⟨b, off, e, Nat.lt_of_lt_of_le hlt hb.size, fun i hi => (hb.cell (p := ⟨b, off + i, none⟩) hlt).trans (hc i hi)⟩
theorem nd0 (w : World) (ao : Option Addr) : Nd w ao [] := fun h => absurd h (by simp)
def Cel (w : World) (b : Nat) (cs : List Value) (T : TypeId) : Prop := w.heap[b]? = some (.cells cs.toArray T (0, 0))
theorem Cel.lt {w : World} {b : Nat} {cs : List Value} {T : TypeId} (h : Cel w b cs T) : b < w.heap.size := (Array.getElem?_eq_some_iff.1 h).1
theorem Cel.cell {w : World} {b : Nat} {cs : List Value} {T : TypeId} (h : Cel w b cs T) (i : Nat) {v : Value} (hv : cs[i]? = some v) : w.cell? ⟨b, i, none⟩ = some v := by
 unfold World.cell?
 rw [show w.heap[({ block := b, off := i, spot := none } : Addr).block]? = _ from h]
 simpa using hv
theorem Cel.frozen {w : World} {b : Nat} {cs : List Value} {T : TypeId} (h : Cel w b cs T) (i : Nat) : w.frozen? ⟨b, i, none⟩ = false := by
 unfold World.frozen?
 rw [show w.heap[({ block := b, off := i, spot := none } : Addr).block]? = _ from h]
 simp
theorem Cel.set {w : World} {b : Nat} {cs : List Value} {T : TypeId} (h : Cel w b cs T) (i : Nat) (v : Value) : Cel (w.setCell ⟨b, i, none⟩ v) b (cs.set i v) T := by
 unfold Cel at h ⊢
 simp only [World.setCell, Array.getElem?_modify]
 rw [if_pos trivial, h]
 simp
theorem Cel.other {w : World} {b : Nat} {cs : List Value} {T : TypeId} (h : Cel w b cs T) {a : Addr} (ha : b ≠ a.block) (v : Value) : Cel (w.setCell a v) b cs T := (Below.heap_setCell w a v b ha).trans h
theorem Cel.keep {w w' : World} {b base : Nat} {cs : List Value} {T : TypeId} (h : Cel w b cs T) (hb : Below base w w') (hlt : b < base) : Cel w' b cs T := (hb.block b hlt).trans h
theorem Cel.kept {w w' : World} {b : Nat} {cs : List Value} {T : TypeId} (h : Cel w b cs T) (hb : Below w.heap.size w w') : Cel w' b cs T := h.keep hb h.lt
theorem Cel.drew {w : World} {b : Nat} {cs : List Value} {T : TypeId} (h : Cel w b cs T) : Cel w.drew b cs T := h
theorem Cel.new (w : World) (cs : List Value) (T : TypeId) : Cel (w.alloc (.cells cs.toArray T)) w.heap.size cs T := by
 show (w.heap.push (.cells cs.toArray T))[w.heap.size]? = _
 simp
theorem Cel.new2 (w : World) (o : Obj) (cs : List Value) (T : TypeId) : Cel ((w.alloc o).alloc (.cells cs.toArray T)) (w.heap.size + 1) cs T := by
 have := Cel.new (w.alloc o) cs T
 simpa using this
theorem Cel.alloc {w : World} {b : Nat} {cs : List Value} {T : TypeId} (h : Cel w b cs T) (o : Obj) : Cel (w.alloc o) b cs T := h.kept ((Below.refl _ _).alloc (Nat.le_refl _) _)
structure Only (g : Nat) (w w' : World) : Prop where
 os : w'.os = w.os
 tape : w'.tape = w.tape
 output : w'.output = w.output
 size : w'.heap.size = w.heap.size
 block : ∀ k, k ≠ g → w'.heap[k]? = w.heap[k]?
theorem Only.refl (g : Nat) (w : World) : Only g w w := ⟨rfl, rfl, rfl, rfl, fun _ _ => rfl⟩
theorem Only.trans {g : Nat} {a b c : World} (h : Only g a b) (k : Only g b c) : Only g a c := ⟨k.os.trans h.os, k.tape.trans h.tape, k.output.trans h.output, k.size.trans h.size, fun i hi => (k.block i hi).trans (h.block i hi)⟩
theorem Only.below {g base : Nat} {w w' : World} (h : Only g w w') (hb : base ≤ g) : Below base w w' := ⟨h.os, h.tape, h.output, by rw [h.size]; exact Nat.le_refl _, fun k hk => h.block k (by omega)⟩
theorem Only.set {g : Nat} {a w : World} (h : Only g a w) (i : Nat) (v : Value) : Only g a (w.setCell ⟨g, i, none⟩ v) :=
 ⟨h.os, h.tape, h.output, by rw [show (w.setCell ⟨g, i, none⟩ v).heap.size = w.heap.size by simp [World.setCell]]; exact h.size, fun k hk => (Below.heap_setCell w ⟨g, i, none⟩ v k hk).trans (h.block k hk)⟩
theorem Only.row (g : Nat) (w : World) (cs : Array Value) : Only g w (w.setRow g cs) := by
 refine ⟨rfl, rfl, rfl, ?_, fun k hk => ?_⟩
 ·simp [World.setRow]
 ·simp only [World.setRow, Array.getElem?_modify]
  rw [if_neg (by omega)]
theorem Only.cell {g : Nat} {w w' : World} (h : Only g w w') {p : Addr} (hp : p.block ≠ g) : w'.cell? p = w.cell? p := World.cell?_of_block (w := w) (h.block p.block hp)
theorem Only.cel {g b : Nat} {w w' : World} {cs : List Value} {T : TypeId} (h : Only g w w') (hc : Cel w b cs T) (hb : b ≠ g) : Cel w' b cs T := (h.block b hb).trans hc
theorem store_cel {ops : Array Oper} {rest : List Oper} {d : Option Tmp} {ty T : TypeId} {ps : String} {af : Array Edge} {a : Act} {w : World} {Q : Exit → Act → World → Prop} {x y : Operand}
  (g : Nat) (old cs : List Value) (hx : a.eval x = .pointer (some ⟨g, 0, none⟩)) (hy : a.eval y = .agg cs.toArray) (hc : Cel w g old T) (lo : old.length = cs.length) (hi : (Tryz.prog.info? T).map (·.size) = some cs.length) (h1 : cs.toArray.all (·.oneCell') = true)
  (h : ∀ w1, Cel w1 g cs T → Only g w w1 → wpList Tryz.prog ops Q rest (a.put d undef) w1) :
  wpList Tryz.prog ops Q (⟨d, .store T x y, ty, ps, af, none⟩ :: rest) a w :=
 wpList_store_row rfl _ x y rfl g _ hx hy _ _ hc (by simpa using hi) (by simpa using lo) h1 (h _ (setRow_heap w g _ _ _ _ hc) (Only.row g w _))
namespace Ap
def Apart (u v : Value) : Prop := ∀ k, u.ownBlock = some k → v.ownBlock ≠ some k
theorem Apart.symm {u v : Value} (h : Apart u v) : Apart v u := fun k hk hu => h k hu hk
end Ap
end Go.Proofs.YtcaalcjcpddhaaaGreat.Zz
