/-
  The contracts of the program's isEnd, of bytes.Compare and of the program's Less.
-/
import Derived.Test.YtojjinjgmijgcaaSl
import Derived.Laws.Externs
import Derived.Lib.Bytealg
import Derived.Lib.BytesEntry
namespace Go.Proofs.Ytojjinjgmijgcaa
open Go.RowKit
set_option linter.unusedVariables false
set_option linter.unusedSimpArgs false
set_option maxRecDepth 100000

def u8s (t : List Nat) : List UInt8 := t.map fun y => UInt8.ofNat y
theorem bytesOf_nums (t : List Nat) : Lib.bytesOf (nums t) = u8s t := by
  unfold Lib.bytesOf nums u8s
  rw [List.map_map]
  exact List.map_congr_left fun a _ => rfl
/-- What the model's entry reads off a slice of bytes. -/
theorem run_bytes {w : World} {ao : Option Addr} {t : List Nat} (cap : Nat) (h : Bd w ao t) : (Extern.Bytes.bytesOf (.slice ao t.length cap)).run Try.prog w = .ok ⟨(u8s t).toArray⟩ w := by
  by_cases h0 : 0 < t.length
  · obtain ⟨b, off, rfl, _, hc⟩ := h h0
    have hl := Lib.run_loadBytesX (P := Try.prog) w (nums t) ⟨b, off, none⟩ .empty fun j x hj => by
      have hj2 : j < t.length := by
        have := (List.getElem?_eq_some_iff.1 hj).1
        simpa [nums] using this
      unfold nums at hj
      rw [List.getElem?_map, gt_get t j hj2] at hj
      injection hj with hj
      rw [← hj, ← hc j hj2]
      unfold Addr.add
      split
      · subst_vars; rfl
      · rfl
    rw [bytesOf_nums, show (nums t).length = t.length by simp [nums]] at hl
    unfold Extern.Bytes.bytesOf
    rw [hl]
    congr 1
    apply ByteArray.ext
    show (#[] : Array UInt8) ++ (u8s t).toArray = (u8s t).toArray
    simp
  · obtain rfl : t = [] := List.eq_nil_of_length_eq_zero (by omega)
    cases ao with
    | none => rfl
    | some a => rfl
theorem cmp_lt : ∀ (x y : List Nat), Bytes x → Bytes y → decide (Lib.compareBytes (u8s x) (u8s y) < 0) = Su.lt x y
  | [], [], _, _ => rfl
  | [], _ :: _, _, _ => rfl
  | _ :: _, [], _, _ => rfl
  | a :: x, b :: y, hx, hy => by
    have ha := hx a (List.mem_cons_self ..)
    have hb := hy b (List.mem_cons_self ..)
    have ih := cmp_lt x y (fun z hz => hx z (List.mem_cons_of_mem _ hz)) (fun z hz => hy z (List.mem_cons_of_mem _ hz))
    show decide (Lib.compareBytes (UInt8.ofNat a :: u8s x) (UInt8.ofNat b :: u8s y) < 0) = _
    unfold Lib.compareBytes Su.lt
    rw [← ih]
    by_cases h1 : a < b
    · rw [if_pos (by rw [u8_lt ha hb]; exact h1), decide_eq_true h1]
      rfl
    · rw [if_neg (by rw [u8_lt ha hb]; exact h1), decide_eq_false h1]
      by_cases h2 : b < a
      · rw [if_pos (by rw [u8_lt hb ha]; exact h2), decide_eq_false (show ¬ a = b by omega)]
        rfl
      · rw [if_neg (by rw [u8_lt hb ha]; exact h2), decide_eq_true (show a = b by omega)]
        rfl
def isE (t : List Nat) (i : Int) : Bool := decide (0 ≤ i) && decide (i ≤ t.length)
theorem isE_yes (t : List Nat) (i : Nat) (h : i ≤ t.length) : isE t (i : Int) = true := by
  unfold isE
  rw [decide_eq_true (by omega), decide_eq_true (by omega)]
  rfl
theorem isE_no (t : List Nat) (i : Int) (h : ¬ (0 ≤ i ∧ i ≤ t.length)) : isE t i = false := by
  unfold isE
  by_cases h1 : 0 ≤ i
  · rw [decide_eq_true h1, decide_eq_false (by omega)]; rfl
  · rw [decide_eq_false h1]; rfl
end Go.Proofs.Ytojjinjgmijgcaa
