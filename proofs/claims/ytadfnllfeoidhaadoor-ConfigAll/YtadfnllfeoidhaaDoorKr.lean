/-
  The contract of nameOf: a range over a map, in whatever order.
-/
import Derived.Test.YtadfnllfeoidhaaDoorKq
namespace Go.Proofs.YtadfnllfeoidhaaDoor
open Go.RowKit
open Go.ChangeMaps (setBlock)
set_option linter.unusedVariables false
set_option linter.unusedSimpArgs false
set_option maxRecDepth 100000

namespace Mp
/-- The name that has a number. -/
def nmo (L : List (List Nat × Nat)) (n : Int) : List Nat := match L with
  | [] => []
  | x :: l => bif ((x.2 : Int) == n) then x.1 else nmo l n
/-- How many are left. -/
def left (L : List (List Nat × Nat)) (r : Nat) (w : World) : Nat := match w.heap[r]? with
  | some (.mapIter _ _ seen _) => (leftOf (en L 0).toArray seen).size
  | _ => 0
theorem en_mem : ∀ {L : List (List Nat × Nat)} {j : Nat} {e : MapEntry}, e ∈ en L j → ∃ i x, L[i]? = some x ∧ e = { key := .string (Co.str x.1), val := .int .i64 (x.2 : Nat), born := j + i }
  | [], j, e, h => by cases h
  | x :: l, j, e, h => by
    rw [en, List.mem_cons] at h
    rcases h with rfl | h
    · exact ⟨0, x, rfl, rfl⟩
    · obtain ⟨i, y, h1, h2⟩ := en_mem h
      exact ⟨i + 1, y, by simpa using h1, by rw [h2]; congr 1; omega⟩
theorem mem_en : ∀ {L : List (List Nat × Nat)} {j i : Nat} {x : List Nat × Nat}, L[i]? = some x → ({ key := .string (Co.str x.1), val := .int .i64 (x.2 : Nat), born := j + i } : MapEntry) ∈ en L j
  | [], j, i, x, h => by simp at h
  | y :: l, j, 0, x, h => by
    simp only [List.getElem?_cons_zero, Option.some.injEq] at h
    subst h
    rw [en]
    exact List.mem_cons_self ..
  | y :: l, j, i + 1, x, h => by
    rw [en, List.mem_cons]
    right
    have := mem_en (L := l) (j := j + 1) (i := i) (x := x) (by simpa using h)
    rwa [show j + 1 + i = j + (i + 1) by omega] at this
theorem en_born : ∀ (L : List (List Nat × Nat)) (j : Nat), (en L j).map (·.born) = List.range' j L.length
  | [], j => rfl
  | x :: l, j => by
    rw [en, List.map_cons, en_born l (j + 1), List.length_cons, List.range'_succ]
theorem en_nodup (L : List (List Nat × Nat)) : ((en L 0).toArray.toList.map (·.born)).Nodup := by
  show ((en L 0).map (·.born)).Nodup
  rw [en_born]
  exact List.nodup_range'
theorem en_old (L : List (List Nat × Nat)) : ∀ x ∈ (en L 0).toArray.toList, x.born < L.length := fun x hx => by
  obtain ⟨i, y, h1, h2⟩ := en_mem (show x ∈ en L 0 from hx)
  have := (List.getElem?_eq_some_iff.1 h1).1
  rw [h2]
  show 0 + i < _
  omega
/-- No two names have one number. -/
def Uni (L : List (List Nat × Nat)) : Prop := (L.map (·.2)).Nodup
theorem nmo_at : ∀ {L : List (List Nat × Nat)} {i : Nat} {x : List Nat × Nat}, Uni L → L[i]? = some x → nmo L (x.2 : Nat) = x.1
  | [], i, x, _, h => by simp at h
  | y :: l, 0, x, _, h => by
    simp only [List.getElem?_cons_zero, Option.some.injEq] at h
    subst h
    rw [nmo]
    simp
  | y :: l, i + 1, x, hu, h => by
    unfold Uni at hu
    rw [List.map_cons, List.nodup_cons] at hu
    have h' : l[i]? = some x := by simpa using h
    have hx : x.2 ∈ l.map (·.2) := List.mem_map.2 ⟨x, List.mem_of_getElem? h', rfl⟩
    have hne : (((y.2 : Nat) : Int) == ((x.2 : Nat) : Int)) = false := by
      rw [beq_eq_false_iff_ne]
      intro q
      have : y.2 = x.2 := by omega
      exact hu.1 (this ▸ hx)
    rw [nmo, hne]
    exact nmo_at hu.2 h'
theorem nmo_none : ∀ {L : List (List Nat × Nat)} {n : Int}, (∀ (i : Nat) (x : List Nat × Nat), L[i]? = some x → (x.2 : Int) ≠ n) → nmo L n = []
  | [], n, _ => rfl
  | y :: l, n, h => by
    have h0 := h 0 y rfl
    rw [nmo, show (((y.2 : Nat) : Int) == n) = false by simpa using h0]
    exact nmo_none fun i x hx => h (i + 1) x (by simpa using hx)
/-- What is found when those with a place in seen have come. -/
def fnd (L : List (List Nat × Nat)) (n : Int) (seen : Array Nat) (f : List Nat) : Prop :=
  (f = [] ∧ ∀ (i : Nat) (x : List Nat × Nat), L[i]? = some x → i ∈ seen → (x.2 : Int) ≠ n) ∨ f = nmo L n
theorem left_less {L : List (List Nat × Nat)} {seen : Array Nat} {e : MapEntry} (h : e ∈ (leftOf (en L 0).toArray seen).toList) : (leftOf (en L 0).toArray (seen.push e.born)).size < (leftOf (en L 0).toArray seen).size := by
  have hm : e ∈ (en L 0).filter (fun e => !seen.contains e.born) := by
    unfold leftOf at h
    simpa using h
  have e1 : (leftOf (en L 0).toArray (seen.push e.born)).size = ((en L 0).filter (fun x => !(seen.push e.born).contains x.born)).length := by unfold leftOf; simp
  have e2 : (leftOf (en L 0).toArray seen).size = ((en L 0).filter (fun x => !seen.contains x.born)).length := by unfold leftOf; simp
  rw [e1, e2]
  have e3 : (en L 0).filter (fun x => !(seen.push e.born).contains x.born) = ((en L 0).filter (fun x => !seen.contains x.born)).filter (fun x => !(x.born == e.born)) := by
    rw [List.filter_filter]
    refine List.filter_congr fun x _ => ?_
    rw [Array.contains_push]
    cases seen.contains x.born <;> cases h2 : (x.born == e.born) <;> simp_all
  rw [e3]
  exact List.length_filter_lt_length_iff_exists.2 ⟨e, hm, by simp⟩
end Mp
set_option maxHeartbeats 4000000 in
theorem knameof_c (n : Int) (L : List (List Nat × Nat)) (b : Nat) (w : World) (h : Mp.Is w b L) (hu : Mp.Uni L) :
    Calls Tryd.prog 21 #[.int .i64 n, .map (some b)] w fun e w' => e = .returned (.string (Co.str (Mp.nmo L n))) ∧ Below w.heap.size w w' := by
  have hr := run_range_map (P := Tryd.prog) w 39 9 3 b _ _ Tryd.underlying39 h
  have hlt := h.lt
  obtain ⟨W, hW⟩ : ∃ W, W = w.alloc (.mapIter (some b) L.length #[] L.length) := ⟨_, rfl⟩
  have HB0 : Hid (Below w.heap.size w W) := by rw [hW]; exact below_alloc w _
  have HI : Hid (W.heap[w.heap.size]? = some (.mapIter (some b) L.length #[] L.length)) := by rw [hW]; exact (MapKept.heap_alloc w _).1
  rw [← hW] at hr
  clear hW
  obtain ⟨r, hrr⟩ : ∃ r, Hid (r = w.heap.size) := ⟨_, rfl⟩
  rw [← hrr.out] at hr HI
  have HM := hide (h.keep HB0.out)
  go_enter Tryd.func21, Tryd.ntmps21
  go_wp2
  go_loopw [5] (fun vf wr => ∃ (f : List Nat) (seen : Array Nat) (c : Nat), vf = .string (Co.str f) ∧ Hid (L.length ≤ c) ∧ Hid (Mp.fnd L n seen f) ∧ Hid (wr.heap[r]? = some (.mapIter (some b) L.length seen c)) ∧ Hid (Mp.Is wr b L) ∧ Hid (Below w.heap.size w wr)) (fun vf wr => Mp.left L r wr)
  case atStart => exact ⟨[], #[], L.length, rfl, Nat.le_refl _, .inl ⟨rfl, fun i x _ hs => by simp at hs⟩, HI, HM, HB0⟩
  case round =>
    clear hr HI HM HB0
    obtain ⟨f, seen, c, rfl, HC, HF, HI, HM, HB⟩ := hrel
    have HL : Hid (Mp.left L r wr = (leftOf (Mp.en L 0).toArray seen).size) := by show Mp.left L r wr = _; unfold Mp.left; rw [HI.out]
    rcases run_next_at (P := Tryd.prog) wr 0 r b L.length c seen _ _ HI.out HM.out (Mp.en_old L) HC.out with ⟨h0, hrun⟩ | ⟨e, he, w1, hw1, hrun⟩
    · have hn : ∀ ty, (Instr.next (.pointer (some ⟨r, 0, none⟩)) false ty).run Tryd.prog wr = .ok (.tuple #[.bool false]) wr := fun ty => hrun
      have R : Hid (f = Mp.nmo L n) := by
        rcases HF.out with ⟨rfl, h2⟩ | q
        · refine (Mp.nmo_none fun i x hx => h2 i x hx ?_).symm
          have hm := Mp.mem_en (j := 0) hx
          have hz : leftOf (Mp.en L 0).toArray seen = #[] := Array.eq_empty_of_size_eq_zero h0
          unfold leftOf at hz
          rw [Array.filter_eq_empty_iff] at hz
          have := hz _ (by simpa using hm)
          simpa using this
        · exact q
      clear hrun h0
      go_wp2
      go_ret
      rw [R.out]
      exact ⟨rfl, HB.out⟩
    · have hm : e ∈ Mp.en L 0 := by
        unfold leftOf at he
        have := (by simpa using he : e ∈ Mp.en L 0 ∧ _)
        exact this.1
      have HLS := hide (Mp.left_less he)
      obtain ⟨i, x, hx, rfl⟩ := Mp.en_mem hm
      have hrb : r ≠ b := by have := hrr.out; omega
      obtain ⟨W2, hW2⟩ : ∃ W2, W2 = setBlock w1 r (.mapIter (some b) L.length (seen.push (0 + i)) L.length) := ⟨_, rfl⟩
      have h1 : w1.heap = wr.heap := by rcases hw1 with rfl | rfl <;> rfl
      have hI2 : W2.heap[r]? = some (.mapIter (some b) L.length (seen.push (0 + i)) L.length) := by
        rw [hW2]
        exact (MapKept.heap_set (w := w1) (r := r) (o := .mapIter (some b) L.length seen c) (by rw [h1]; exact HI.out)).1
      have hO : ∀ k, k ≠ r → W2.heap[k]? = wr.heap[k]? := fun k hk => by
        rw [hW2, ← h1]
        exact (MapKept.heap_set (w := w1) (r := r) (o := .mapIter (some b) L.length seen c) (by rw [h1]; exact HI.out)).2 k hk
      have hM2 : Hid (Mp.Is W2 b L) := (hO b (Ne.symm hrb)).trans HM.out
      have hB2 : Hid (Below w.heap.size w W2) := by
        have hB := HB.out
        have hs : W2.heap.size = wr.heap.size := by rw [hW2]; simp [setBlock, h1]
        refine ⟨?_, ?_, ?_, by rw [hs]; exact hB.size, fun k hk => (hO k (by have := hrr.out; omega)).trans (hB.block k hk)⟩
        · rw [hW2]; rcases hw1 with rfl | rfl <;> exact hB.os
        · rw [hW2]; rcases hw1 with rfl | rfl <;> exact hB.tape
        · rw [hW2]; rcases hw1 with rfl | rfl <;> exact hB.output
      rw [← hW2] at hrun
      have hn : ∀ ty, (Instr.next (.pointer (some ⟨r, 0, none⟩)) false ty).run Tryd.prog wr = .ok (.tuple #[.bool true, .string (Co.str x.1), .int .i64 (x.2 : Nat)]) W2 := fun ty => hrun
      have hen := run_entry_at (P := Tryd.prog) W2 r b L.length seen _ _ _ hI2 hM2.out (show _ ∈ (Mp.en L 0).toArray.toList from hm) (Mp.en_nodup L)
      have HX := hide hx
      have HL2 : Hid (Mp.left L r W2 < Mp.left L r wr) := by
        show _ < _
        rw [HL.out]
        unfold Mp.left
        rw [hI2]
        exact HLS.out
      have HI2 := hide hI2
      clear hrun h1 hw1 hO hW2 hI2 hx hm he HLS HI HM HB
      by_cases hv : ((x.2 : Nat) : Int) = n
      · have hv' : (((x.2 : Nat) : Int) == n) = true := by simp [hv]
        have HF2 : Hid (Mp.fnd L n (seen.push (0 + i)) x.1) := .inr (by rw [← hv]; exact (Mp.nmo_at hu HX.out).symm)
        clear hv
        go_wp2
        exact ⟨⟨x.1, _, L.length, rfl, Nat.le_refl _, HF2, HI2, hM2, hB2⟩, HL2.out⟩
      · have hv' : (((x.2 : Nat) : Int) == n) = false := by simp [hv]
        have HF2 : Hid (Mp.fnd L n (seen.push (0 + i)) f) := by
          rcases HF.out with ⟨h1, h2⟩ | q
          · refine .inl ⟨h1, fun j y hj hs => ?_⟩
            rw [Array.mem_push] at hs
            rcases hs with hs | hs
            · exact h2 j y hj hs
            · have : j = i := by omega
              subst this
              rw [HX.out] at hj
              injection hj with hj
              rw [← hj]
              exact hv
          · exact .inr q
        clear hv
        go_wp2
        exact ⟨⟨f, _, L.length, rfl, Nat.le_refl _, HF2, HI2, hM2, hB2⟩, HL2.out⟩
end Go.Proofs.YtadfnllfeoidhaaDoor
