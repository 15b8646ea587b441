/-
  A range over a string whose iterator lies anywhere; the contract of number.
-/
import Derived.Test.YtadfnllfeoidhaaDoorCg
import Derived.Laws.RangeAny
import Derived.Maps.RangeRun
namespace Go.Proofs.YtadfnllfeoidhaaDoor
open Go.RowKit
open Go.ChangeMaps (setBlock)
set_option linter.unusedVariables false
set_option linter.unusedSimpArgs false
set_option maxRecDepth 100000

namespace Rs
/-- Block r is an iterator over s that stands at pos. -/
def It (w : World) (r : Nat) (s : ByteArray) (pos : Nat) : Prop := w.heap[r]? = some (.stringIter s pos)
theorem It.lt {w : World} {r pos : Nat} {s : ByteArray} (h : It w r s pos) : r < w.heap.size := (Array.getElem?_eq_some_iff.1 h).1
theorem It.keep {w w' : World} {r pos : Nat} {s : ByteArray} (h : It w r s pos) (hb : Below w.heap.size w w') : It w' r s pos := (hb.block r h.lt).trans h
def pos (r : Nat) (w : World) : Nat := match w.heap[r]? with | some (.stringIter _ p) => p | _ => 0
theorem It.pos {w : World} {r p : Nat} {s : ByteArray} (h : It w r s p) : pos r w = p := by unfold Rs.pos; rw [show w.heap[r]? = _ from h]
theorem next_over {w : World} {r p : Nat} {s : ByteArray} (h : It w r s p) (hp : ¬ p < s.size) : ∀ ty, (Instr.next (.pointer (some ⟨r, 0, none⟩)) true ty).run Tryd.prog w = .ok (.tuple #[.bool false]) w := fun ty => by
  unfold It at h
  simp [Instr.next, getObj, Sem.run, h, hp]
theorem next_more {w : World} {r p : Nat} {s : ByteArray} (h : It w r s p) (hp : p < s.size) : ∀ ty, (Instr.next (.pointer (some ⟨r, 0, none⟩)) true ty).run Tryd.prog w = .ok (.tuple #[.bool true, .int .i64 (p : Nat), .int .i32 ((Utf8.decode s p).1 : Nat)]) (setBlock w r (.stringIter s (p + (Utf8.decode s p).2))) := fun ty => by
  unfold It at h
  simp only [Instr.next, getObj, setObj, Sem.run_bind, Sem.run, h, Result.andThen, hp, if_true]
  simp [goInt, setBlock]
theorem step {w : World} {r p q : Nat} {s : ByteArray} (h : It w r s p) : It (setBlock w r (.stringIter s q)) r s q ∧ Only r w (setBlock w r (.stringIter s q)) :=
  ⟨(MapKept.heap_set (w := w) (r := r) h).1, ⟨rfl, rfl, rfl, by simp [setBlock], fun i hi => (MapKept.heap_set (w := w) (r := r) h).2 i hi⟩⟩
theorem wide (s : ByteArray) (p : Nat) (h : p < s.size) : 1 ≤ (Utf8.decode s p).2 := by
  by_cases c : (s[p]'h).toNat < 128
  · rw [decode_ascii s p h c]; exact Nat.le_refl _
  · exact (decode_high s p h (by omega)).2
/-- What number reckons, from place p on. -/
def nuS (s : ByteArray) : Nat → Nat → Nat → Nat
  | 0, _, n => n
  | f + 1, p, n => if p < s.size then (if (Utf8.decode s p).1 < 48 then 0 else if 57 < (Utf8.decode s p).1 then 0 else if 64 < 10 * n + ((Utf8.decode s p).1 - 48) then 0 else nuS s f (p + (Utf8.decode s p).2) (10 * n + ((Utf8.decode s p).1 - 48))) else n
def num (s : ByteArray) : Nat := nuS s s.size 0 0
end Rs
set_option maxHeartbeats 4000000 in
theorem knum_c (s : ByteArray) (w : World) : Calls Tryd.prog 36 #[.string s] w fun e w' => e = .returned (.int .i64 (Rs.num s : Nat)) ∧ Below w.heap.size w w' := by
  have hr := run_range_string (P := Tryd.prog) w 9 s Tryd.underlying9
  obtain ⟨W, hW⟩ : ∃ W, W = w.iter s 0 := ⟨_, rfl⟩
  have HB0 : Hid (Below w.heap.size w W) := by rw [hW]; exact below_alloc w _
  have HI : Hid (Rs.It W w.heap.size s 0) := by rw [hW]; exact World.iter_heap w s 0
  rw [← hW] at hr
  clear hW
  obtain ⟨r, hrr⟩ : ∃ r, Hid (r = w.heap.size) := ⟨_, rfl⟩
  rw [← hrr.out] at hr HI
  have hgr : Hid (w.heap.size ≤ r) := by rw [hrr.out]; exact Nat.le_refl _
  go_enter Tryd.func36, Tryd.ntmps36
  go_wp2
  go_loopw [3] (fun vn wr => ∃ n p f : Nat, n ≤ 64 ∧ vn = .int .i64 (n : Nat) ∧ Hid (Rs.num s = Rs.nuS s f p n) ∧ Hid (s.size ≤ p + f) ∧ Hid (Rs.It wr r s p) ∧ Hid (Below w.heap.size w wr)) (fun _ wr => s.size - Rs.pos r wr)
  case atStart => exact ⟨0, 0, s.size, by omega, rfl, rfl, by show _ ≤ _; omega, HI, HB0⟩
  case round =>
    clear hr HI HB0
    obtain ⟨n, p, f, hn, rfl, HN, HF, HI, HB⟩ := hrel
    have HP := hide HI.out.pos
    by_cases hp : p < s.size
    · obtain ⟨f, rfl⟩ : ∃ k, f = k + 1 := ⟨f - 1, by have := HF.out; omega⟩
      have hnx := Rs.next_more HI.out hp
      have hst := Rs.step (q := p + (Utf8.decode s p).2) HI.out
      have hw1 := Rs.wide s p hp
      have HU : Hid (Rs.num s = (if (Utf8.decode s p).1 < 48 then 0 else if 57 < (Utf8.decode s p).1 then 0 else if 64 < 10 * n + ((Utf8.decode s p).1 - 48) then 0 else Rs.nuS s f (p + (Utf8.decode s p).2) (10 * n + ((Utf8.decode s p).1 - 48)))) := by
        show _ = _
        rw [HN.out, Rs.nuS, if_pos hp]
      generalize (Utf8.decode s p).1 = c at *
      generalize (Utf8.decode s p).2 = d at *
      generalize setBlock wr r (.stringIter s (p + d)) = W2 at *
      have HI2 := hide hst.1
      have HB2 := hide (HB.out.trans (hst.2.below hgr.out))
      have HPS : Hid (s.size - Rs.pos r W2 < s.size - Rs.pos r wr) := by
        show _ < _
        rw [HI2.out.pos, HP.out]
        omega
      have HW1 := hide hw1
      clear hst HI HB HN hw1
      by_cases h1 : c < 48
      · have h1z : (c : Int) < 48 := by omega
        have R : Hid (Rs.num s = 0) := HU.out.trans (if_pos h1)
        clear HU
        go_wp2
        go_ret
        rw [R.out]
        exact ⟨rfl, HB2.out⟩
      · have h1z : ¬ (c : Int) < 48 := by omega
        by_cases h2 : 57 < c
        · have h2z : (57 : Int) < (c : Int) := by omega
          have R : Hid (Rs.num s = 0) := HU.out.trans ((if_neg h1).trans (if_pos h2))
          clear HU
          go_wp2
          go_ret
          rw [R.out]
          exact ⟨rfl, HB2.out⟩
        · have h2z : ¬ (57 : Int) < (c : Int) := by omega
          obtain ⟨m, hm⟩ : ∃ m, Hid (10 * n + (c - 48) = m) := ⟨_, rfl⟩
          rw [hm.out] at HU
          have hmz : 10 * (n : Int) + ((c : Int) - 48) = (m : Int) := by have := hm.out; omega
          by_cases h3 : 64 < m
          · have h3z : (64 : Int) < (m : Int) := by omega
            have R : Hid (Rs.num s = 0) := HU.out.trans ((if_neg h1).trans ((if_neg h2).trans (if_pos h3)))
            clear HU
            go_wp2
            go_ret
            rw [R.out]
            exact ⟨rfl, HB2.out⟩
          · have h3z : ¬ (64 : Int) < (m : Int) := by omega
            have HN2 : Hid (Rs.num s = Rs.nuS s f (p + d) m) := HU.out.trans ((if_neg h1).trans ((if_neg h2).trans (if_neg h3)))
            have HF2 : Hid (s.size ≤ p + d + f) := by have := HF.out; have := HW1.out; show _ ≤ _; omega
            clear HU
            go_wp2
            exact ⟨⟨m, p + d, f, by omega, by go_num, HN2, HF2, HI2, HB2⟩, HPS.out⟩
    · have hnx := Rs.next_over HI.out hp
      have R : Hid (Rs.num s = n) := by
        show _ = _
        rw [HN.out]
        cases f with
        | zero => rfl
        | succ f => rw [Rs.nuS, if_neg hp]
      go_wp2
      go_ret
      rw [R.out]
      exact ⟨rfl, HB.out⟩
end Go.Proofs.YtadfnllfeoidhaaDoor
