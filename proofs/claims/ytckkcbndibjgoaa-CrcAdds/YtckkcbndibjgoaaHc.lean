/-
  The contract of heads.
-/
import Derived.Test.YtckkcbndibjgoaaRc
import Derived.Lib.SlBytesConst
namespace Go.Proofs.Ytckkcbndibjgoaa
open Go.RowKit Crc
set_option linter.unusedVariables false
set_option linter.unusedSimpArgs false
set_option maxRecDepth 100000

def nine : List Nat := [49, 50, 51, 52, 53, 54, 55, 56, 57]
theorem bytes_nine : Bytes nine := by intro x hx; simp [nine] at hx; omega
theorem sum0 (w0 : World) : Calls Try.prog 8 #[.slice none 0 0] w0 fun e w' => e = .returned (.int .u32 0) ∧ w' = w0 := by
  have h := sum_c none [] 0 w0 (bd0 _ _) (by intro x hx; cases hx) (by decide)
  rw [head0] at h
  exact h
theorem sum9 (w : World) : Calls Try.prog 8 #[.slice (some ⟨w.heap.size, 0, none⟩) 9 9] (w.alloc (.cells #[.int .u8 49, .int .u8 50, .int .u8 51, .int .u8 52, .int .u8 53, .int .u8 54, .int .u8 55, .int .u8 56, .int .u8 57] 5 (9, 10))) fun e w' => e = .returned (.int .u32 3421780262) ∧ w' = (w.alloc (.cells #[.int .u8 49, .int .u8 50, .int .u8 51, .int .u8 52, .int .u8 53, .int .u8 54, .int .u8 55, .int .u8 56, .int .u8 57] 5 (9, 10))) := by
  have hx : Bd (w.alloc (.cells #[.int .u8 49, .int .u8 50, .int .u8 51, .int .u8 52, .int .u8 53, .int .u8 54, .int .u8 55, .int .u8 56, .int .u8 57] 5 (9, 10))) (some ⟨w.heap.size, 0, none⟩) nine := by
    intro _
    refine ⟨w.heap.size, 0, rfl, by simp, fun i hi => ?_⟩
    have hi : i < 9 := hi
    match i, hi with
    | 0, _ => rw [World.cell?_alloc_mark]; simp [nine, gt]
    | 1, _ => rw [World.cell?_alloc_mark]; simp [nine, gt]
    | 2, _ => rw [World.cell?_alloc_mark]; simp [nine, gt]
    | 3, _ => rw [World.cell?_alloc_mark]; simp [nine, gt]
    | 4, _ => rw [World.cell?_alloc_mark]; simp [nine, gt]
    | 5, _ => rw [World.cell?_alloc_mark]; simp [nine, gt]
    | 6, _ => rw [World.cell?_alloc_mark]; simp [nine, gt]
    | 7, _ => rw [World.cell?_alloc_mark]; simp [nine, gt]
    | 8, _ => rw [World.cell?_alloc_mark]; simp [nine, gt]
  have h := sum_c (some ⟨w.heap.size, 0, none⟩) nine 9 _ hx bytes_nine (by decide)
  rw [show sumL nine = 3421780262 from head] at h
  exact h

set_option maxHeartbeats 2000000 in
theorem heads_c (w : World) : Calls Try.prog 7 #[] w fun e w' => e = .returned (.bool true) ∧ Below w.heap.size w w' := by
  have kc := fun (w : World) (C : Array Value) (n c : Nat) => Lib.run_convert_bytes_const (P := Try.prog) w 22 5 C n c Try.underlying22 Try.underlying5
  go_enter Try.func7, Try.ntmps7
  go_wp2_with fail
  refine (sum9 w).mono ?_
  rintro e w1 ⟨rfl, h1⟩
  have hw : Below w.heap.size w w1 := by rw [h1]; exact below_alloc w _
  clear h1
  go_wp2_with fail
  refine (sum0 w1).mono ?_
  rintro e w2 ⟨rfl, h2⟩
  rw [h2]
  go_wp2
  go_ret
  exact ⟨rfl, hw⟩
/-- []byte{} is an empty row of the call's own. -/
theorem own_new (w : World) : (w.alloc (.cells #[] 5)).ownsRow w.heap.size 5 1 (.slice (some ⟨w.heap.size, 0, none⟩) 0 0) 0 [] :=
  ⟨rfl, .inr ⟨w.heap.size, 0, #[], rfl, Nat.le_refl _, (by show (w.heap.push (.cells #[] 5))[w.heap.size]? = _; simp), Nat.le_refl _, Nat.zero_le _, rfl, rfl⟩⟩
end Go.Proofs.Ytckkcbndibjgoaa
