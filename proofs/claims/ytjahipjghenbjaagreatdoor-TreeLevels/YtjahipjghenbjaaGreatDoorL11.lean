/-
  The contracts of the program's places: what it makes tells the places of a row by places. Plain: when a row by places may be: it fits, and its places rise below N; what it is then, field by field.
-/
import Derived.Test.YtjahipjghenbjaaGreatDoorL10
import Derived.Test.YtjahipjghenbjaaGreatDoorL01
import Derived.Test.YtjahipjghenbjaaGreatDoorL05
import Derived.Test.YtjahipjghenbjaaGreatDoorL08
set_option linter.unusedVariables false
set_option linter.unusedSimpArgs false
set_option maxRecDepth 100000
set_option maxHeartbeats 16000000
namespace Go.Proofs.YtjahipjghenbjaaGreatDoor
open Go.RowKit Go.Shelf Num Bit
attribute [local go_sem] Oper.semAt_some
theorem Kept.more {K : Nat → Prop} {D : Nat} {a b c : World} (h : Kept K a b) (hb : Below D b c) (hD : a.heap.size ≤ D) : Kept K a c :=
 ⟨hb.os.trans h.os, hb.tape.trans h.tape, hb.output.trans h.output, Nat.le_trans h.size hb.size, fun x hx hl => (hb.block x (by omega)).trans (h.same x hx hl)⟩
end Go.Proofs.YtjahipjghenbjaaGreatDoor
namespace Go.Proofs.YtjahipjghenbjaaGreatDoor
open Num Bit
abbrev RA9 := FA
def fSame (a b : FA) : Bool := decide (a.N = b.N) && decide (a.M = b.M) && (decide (a.k = b.k) && decide (a.V = b.V) && (decide (a.LM = b.LM) && decide (a.xs = b.xs))) && (decide (a.H = b.H) && decide (a.ys = b.ys))
theorem fSame_iff (a b : FA) : fSame a b = true ↔ a = b := by
 obtain ⟨a1, a2, a3, a4, a5, a6, a7, a8⟩ := a
 obtain ⟨b1, b2, b3, b4, b5, b6, b7, b8⟩ := b
 unfold fSame
 simp only [Bool.and_eq_true, decide_eq_true_eq, FA.mk.injEq]
 constructor
 ·rintro ⟨⟨⟨rfl, rfl⟩, ⟨rfl, rfl⟩, rfl, rfl⟩, rfl, rfl⟩
  exact ⟨rfl, rfl, rfl, rfl, rfl, rfl, rfl, rfl⟩
 ·rintro ⟨rfl, rfl, rfl, rfl, rfl, rfl, rfl, rfl⟩
  exact ⟨⟨⟨rfl, rfl⟩, ⟨rfl, rfl⟩, rfl, rfl⟩, rfl, rfl⟩
def kOk9 (a : RA9) : Bool :=
 match fRow a with
 | some l => fSame a (fOf a.N.toNat l)
 | none => false
def kRow (a : RA9) : List Nat := (fRow a).getD []
def kBN9 (a : RA9) : Int := if kOk9 a = true then a.N else 0
def kBX9 (a : RA9) : List Nat := if kOk9 a = true then rowOf a.N.toNat (isIn (kRow a)) else []
def kZ9 (a : RA9) : Int := if kOk9 a = true then a.LM + a.H + 64 else 0
def kB9 (N : Int) (xs : List Nat) : RA9 := if chk N xs = true then fOf N.toNat (plc (bitAt xs) N.toNat) else ⟨0, 0, 0, 0, 0, [], 0, []⟩
def kE9 (N : Int) (xs : List Nat) : Int := if chk N xs = true then 0 else 2
theorem kOk_row (a : RA9) (h : kOk9 a = true) : fRow a = some (kRow a) ∧ a = fOf a.N.toNat (kRow a) := by
 unfold kOk9 at h
 unfold kRow
 cases e : fRow a with
 | none => rw [e] at h; cases h
 | some l =>
  rw [e] at h
  exact ⟨rfl, (fSame_iff _ _).1 h⟩
theorem isIn_plc (f : Nat → Bool) (n j : Nat) : isIn (plc f n) j = (decide (j < n) && f j) := by
 rw [Bool.eq_iff_iff, mem_isIn, mem_plc, Bool.and_eq_true, decide_eq_true_eq]
end Go.Proofs.YtjahipjghenbjaaGreatDoor
