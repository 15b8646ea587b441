/-
  Maps from strings to numbers that a function makes: entries, look-ups, the contracts of shapes, kinds, nameOf.
-/
import Derived.Test.YtadfnllfeoidhaaDoorCg
import Derived.Maps.RangeRun
import Derived.Maps.Own
namespace Go.Proofs.YtadfnllfeoidhaaDoor
open Go.RowKit
open Go.ChangeMaps (setBlock)
set_option linter.unusedVariables false
set_option linter.unusedSimpArgs false
set_option maxRecDepth 100000

namespace Mp
/-- The entries of a map, names ahead of numbers, as they came in. -/
def en (L : List (List Nat × Nat)) (i : Nat) : List MapEntry := match L with
  | [] => []
  | x :: l => { key := .string (Co.str x.1), val := .int .i64 (x.2 : Nat), born := i } :: en l (i + 1)
/-- What stands in the map under a name. -/
def look (L : List (List Nat × Nat)) (s : ByteArray) : Nat := match L with
  | [] => 0
  | x :: l => bif s == Co.str x.1 then x.2 else look l s
def shL : List (List Nat × Nat) := [([116, 114, 101, 101], 1), ([115, 104, 97, 112, 101, 100], 2), ([109, 97, 116, 114, 105, 120], 3), ([98, 111, 111, 115, 116], 4)]
def kdL : List (List Nat × Nat) := [([112, 108, 97, 105, 110], 1), ([114, 114, 114], 2), ([102, 97, 110, 111], 3)]
/-- Block b is the map L. -/
def Is (w : World) (b : Nat) (L : List (List Nat × Nat)) : Prop := w.heap[b]? = some (.map (en L 0).toArray L.length)
theorem Is.lt {w : World} {b : Nat} {L : List (List Nat × Nat)} (h : Is w b L) : b < w.heap.size := (Array.getElem?_eq_some_iff.1 h).1
theorem Is.keep {w w' : World} {b : Nat} {L : List (List Nat × Nat)} (h : Is w b L) (hb : Below w.heap.size w w') : Is w' b L := (hb.block b h.lt).trans h
theorem run_put (w : World) (es : Array MapEntry) (c : Nat) (k : ByteArray) (v : Value) (hn : Instr.findNow .string (.string k) es.toList 0 = some none) :
    (Instr.mapUpdate 39 (.map (some w.heap.size)) (.string k) v).run Tryd.prog (w.alloc (.map es c)) = .ok () (w.alloc (.map (es.push { key := .string k, val := v, born := c }) (c + 1))) := by
  have hb := (MapKept.heap_alloc w (.map es c)).1
  have h1 := MapKept.run_getObj_map (P := Tryd.prog) hb
  have h2 := MapKept.run_checkKey (P := Tryd.prog) (w := w.alloc (.map es c)) Tryd.underlying9 (k := .string k) (show MapKept.IsKey .string (.string k) from trivial) false 9999
  have h3 := MapKept.run_findKey (P := Tryd.prog) (w := w.alloc (.map es c)) Tryd.underlying9 hn
  simp only [Instr.mapUpdate, Sem.run_bind, run_underlying Tryd.underlying39, Result.andThen, h1, h2, h3]
  simp only [setObj, Sem.run, hb]
  refine congrArg (Result.ok ()) ?_
  simp only [World.alloc]
  congr 1
  apply Array.ext'
  simp [Array.setIfInBounds, Array.toList_push]
theorem find_nm (k : ByteArray) : ∀ (L : List (List Nat × Nat)) (i j : Nat), Instr.findNow .string (.string k) (en L j) i = some none ∧ look L k = 0 ∨ ∃ p, Instr.findNow .string (.string k) (en L j) i = some (some (p, .int .i64 (look L k : Nat)))
  | [], i, j => .inl ⟨rfl, rfl⟩
  | x :: l, i, j => by
    rw [en, look]
    unfold Instr.findNow
    simp only [Instr.sameNow]
    cases h : k == Co.str x.1 with
    | true => exact .inr ⟨i, rfl⟩
    | false => exact find_nm k l (i + 1) (j + 1)
/-- A look-up. -/
theorem run_look {w : World} {b : Nat} {L : List (List Nat × Nat)} (h : Is w b L) (k : ByteArray) : (Instr.lookup 39 (.map (some b)) (.string k) false).run Tryd.prog w = .ok (.int .i64 (look L k : Nat)) w := by
  have h1 := MapKept.run_getObj_map (P := Tryd.prog) h
  have h2 : ∀ e, (Instr.checkKey e 10000 9 (.string k)).run Tryd.prog w = .ok () w := fun e => MapKept.run_checkKey (P := Tryd.prog) (w := w) Tryd.underlying9 (k := .string k) (show MapKept.IsKey .string (.string k) from trivial) e 9999
  have hz : (zeroValue 3).run Tryd.prog w = .ok (.int .i64 0) w := by kernel_rfl
  rcases find_nm k L 0 0 with ⟨h3, h4⟩ | ⟨p, h3⟩
  · have h5 := MapKept.run_findKey (P := Tryd.prog) (w := w) (l := (en L 0).toArray.toList) Tryd.underlying9 (by simpa using h3)
    simp only [Instr.lookup, Sem.run_bind, run_underlying Tryd.underlying39, Sem.run_pure, Result.andThen, h1, h2, h5, hz, h4]
    rfl
  · have h5 := MapKept.run_findKey (P := Tryd.prog) (w := w) (l := (en L 0).toArray.toList) Tryd.underlying9 (by simpa using h3)
    simp only [Instr.lookup, Sem.run_bind, run_underlying Tryd.underlying39, Sem.run_pure, Result.andThen, h1, h2, h5]
    rfl
end Mp
set_option maxHeartbeats 2000000 in
theorem kshapes_c (w : World) : Calls Tryd.prog 22 #[] w fun e w' => ∃ g, e = .returned (.map (some g)) ∧ Mp.Is w' g Mp.shL ∧ w.heap.size ≤ g ∧ Below w.heap.size w w' := by
  have hm : (Instr.makeMap 39 none).run Tryd.prog w = .ok (.map (some w.heap.size)) (w.alloc (.map #[] 0)) := run_makeMap 39 w
  have h0 : (Instr.mapUpdate 39 (.map (some w.heap.size)) (.string { data := #[116, 114, 101, 101] }) (.int .i64 1)).run Tryd.prog (w.alloc (.map #[] 0)) = .ok () (w.alloc (.map #[{ key := .string { data := #[116, 114, 101, 101] }, val := .int .i64 1, born := 0 }] 1)) := Mp.run_put w #[] 0 { data := #[116, 114, 101, 101] } (.int .i64 1) (by kernel_rfl)
  have h1 : (Instr.mapUpdate 39 (.map (some w.heap.size)) (.string { data := #[115, 104, 97, 112, 101, 100] }) (.int .i64 2)).run Tryd.prog (w.alloc (.map #[{ key := .string { data := #[116, 114, 101, 101] }, val := .int .i64 1, born := 0 }] 1)) = .ok () (w.alloc (.map #[{ key := .string { data := #[116, 114, 101, 101] }, val := .int .i64 1, born := 0 }, { key := .string { data := #[115, 104, 97, 112, 101, 100] }, val := .int .i64 2, born := 1 }] 2)) := Mp.run_put w #[{ key := .string { data := #[116, 114, 101, 101] }, val := .int .i64 1, born := 0 }] 1 { data := #[115, 104, 97, 112, 101, 100] } (.int .i64 2) (by kernel_rfl)
  have h2 : (Instr.mapUpdate 39 (.map (some w.heap.size)) (.string { data := #[109, 97, 116, 114, 105, 120] }) (.int .i64 3)).run Tryd.prog (w.alloc (.map #[{ key := .string { data := #[116, 114, 101, 101] }, val := .int .i64 1, born := 0 }, { key := .string { data := #[115, 104, 97, 112, 101, 100] }, val := .int .i64 2, born := 1 }] 2)) = .ok () (w.alloc (.map #[{ key := .string { data := #[116, 114, 101, 101] }, val := .int .i64 1, born := 0 }, { key := .string { data := #[115, 104, 97, 112, 101, 100] }, val := .int .i64 2, born := 1 }, { key := .string { data := #[109, 97, 116, 114, 105, 120] }, val := .int .i64 3, born := 2 }] 3)) := Mp.run_put w #[{ key := .string { data := #[116, 114, 101, 101] }, val := .int .i64 1, born := 0 }, { key := .string { data := #[115, 104, 97, 112, 101, 100] }, val := .int .i64 2, born := 1 }] 2 { data := #[109, 97, 116, 114, 105, 120] } (.int .i64 3) (by kernel_rfl)
  have h3 : (Instr.mapUpdate 39 (.map (some w.heap.size)) (.string { data := #[98, 111, 111, 115, 116] }) (.int .i64 4)).run Tryd.prog (w.alloc (.map #[{ key := .string { data := #[116, 114, 101, 101] }, val := .int .i64 1, born := 0 }, { key := .string { data := #[115, 104, 97, 112, 101, 100] }, val := .int .i64 2, born := 1 }, { key := .string { data := #[109, 97, 116, 114, 105, 120] }, val := .int .i64 3, born := 2 }] 3)) = .ok () (w.alloc (.map #[{ key := .string { data := #[116, 114, 101, 101] }, val := .int .i64 1, born := 0 }, { key := .string { data := #[115, 104, 97, 112, 101, 100] }, val := .int .i64 2, born := 1 }, { key := .string { data := #[109, 97, 116, 114, 105, 120] }, val := .int .i64 3, born := 2 }, { key := .string { data := #[98, 111, 111, 115, 116] }, val := .int .i64 4, born := 3 }] 4)) := Mp.run_put w #[{ key := .string { data := #[116, 114, 101, 101] }, val := .int .i64 1, born := 0 }, { key := .string { data := #[115, 104, 97, 112, 101, 100] }, val := .int .i64 2, born := 1 }, { key := .string { data := #[109, 97, 116, 114, 105, 120] }, val := .int .i64 3, born := 2 }] 3 { data := #[98, 111, 111, 115, 116] } (.int .i64 4) (by kernel_rfl)
  have HI : Mp.Is (w.alloc (.map #[{ key := .string { data := #[116, 114, 101, 101] }, val := .int .i64 1, born := 0 }, { key := .string { data := #[115, 104, 97, 112, 101, 100] }, val := .int .i64 2, born := 1 }, { key := .string { data := #[109, 97, 116, 114, 105, 120] }, val := .int .i64 3, born := 2 }, { key := .string { data := #[98, 111, 111, 115, 116] }, val := .int .i64 4, born := 3 }] 4)) w.heap.size Mp.shL := (MapKept.heap_alloc w _).1.trans (by kernel_rfl)
  have HI2 := hide HI
  clear HI
  go_enter Tryd.func22, Tryd.ntmps22
  go_wp2
  go_ret
  exact ⟨_, rfl, HI2.out, Nat.le_refl _, below_alloc w _⟩
set_option maxHeartbeats 2000000 in
theorem kkinds_c (w : World) : Calls Tryd.prog 24 #[] w fun e w' => ∃ g, e = .returned (.map (some g)) ∧ Mp.Is w' g Mp.kdL ∧ w.heap.size ≤ g ∧ Below w.heap.size w w' := by
  have hm : (Instr.makeMap 39 none).run Tryd.prog w = .ok (.map (some w.heap.size)) (w.alloc (.map #[] 0)) := run_makeMap 39 w
  have h0 : (Instr.mapUpdate 39 (.map (some w.heap.size)) (.string { data := #[112, 108, 97, 105, 110] }) (.int .i64 1)).run Tryd.prog (w.alloc (.map #[] 0)) = .ok () (w.alloc (.map #[{ key := .string { data := #[112, 108, 97, 105, 110] }, val := .int .i64 1, born := 0 }] 1)) := Mp.run_put w #[] 0 { data := #[112, 108, 97, 105, 110] } (.int .i64 1) (by kernel_rfl)
  have h1 : (Instr.mapUpdate 39 (.map (some w.heap.size)) (.string { data := #[114, 114, 114] }) (.int .i64 2)).run Tryd.prog (w.alloc (.map #[{ key := .string { data := #[112, 108, 97, 105, 110] }, val := .int .i64 1, born := 0 }] 1)) = .ok () (w.alloc (.map #[{ key := .string { data := #[112, 108, 97, 105, 110] }, val := .int .i64 1, born := 0 }, { key := .string { data := #[114, 114, 114] }, val := .int .i64 2, born := 1 }] 2)) := Mp.run_put w #[{ key := .string { data := #[112, 108, 97, 105, 110] }, val := .int .i64 1, born := 0 }] 1 { data := #[114, 114, 114] } (.int .i64 2) (by kernel_rfl)
  have h2 : (Instr.mapUpdate 39 (.map (some w.heap.size)) (.string { data := #[102, 97, 110, 111] }) (.int .i64 3)).run Tryd.prog (w.alloc (.map #[{ key := .string { data := #[112, 108, 97, 105, 110] }, val := .int .i64 1, born := 0 }, { key := .string { data := #[114, 114, 114] }, val := .int .i64 2, born := 1 }] 2)) = .ok () (w.alloc (.map #[{ key := .string { data := #[112, 108, 97, 105, 110] }, val := .int .i64 1, born := 0 }, { key := .string { data := #[114, 114, 114] }, val := .int .i64 2, born := 1 }, { key := .string { data := #[102, 97, 110, 111] }, val := .int .i64 3, born := 2 }] 3)) := Mp.run_put w #[{ key := .string { data := #[112, 108, 97, 105, 110] }, val := .int .i64 1, born := 0 }, { key := .string { data := #[114, 114, 114] }, val := .int .i64 2, born := 1 }] 2 { data := #[102, 97, 110, 111] } (.int .i64 3) (by kernel_rfl)
  have HI : Mp.Is (w.alloc (.map #[{ key := .string { data := #[112, 108, 97, 105, 110] }, val := .int .i64 1, born := 0 }, { key := .string { data := #[114, 114, 114] }, val := .int .i64 2, born := 1 }, { key := .string { data := #[102, 97, 110, 111] }, val := .int .i64 3, born := 2 }] 3)) w.heap.size Mp.kdL := (MapKept.heap_alloc w _).1.trans (by kernel_rfl)
  have HI2 := hide HI
  clear HI
  go_enter Tryd.func24, Tryd.ntmps24
  go_wp2
  go_ret
  exact ⟨_, rfl, HI2.out, Nat.le_refl _, below_alloc w _⟩
end Go.Proofs.YtadfnllfeoidhaaDoor
