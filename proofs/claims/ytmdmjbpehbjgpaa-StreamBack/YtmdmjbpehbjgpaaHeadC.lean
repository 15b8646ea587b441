/-
  The contracts at the closed arguments that heads calls with, and what stays of a box.
-/
import Derived.Test.YtmdmjbpehbjgpaaGet
import Derived.Test.YtmdmjbpehbjgpaaOnes
import Derived.Test.YtmdmjbpehbjgpaaSame
import Derived.Test.YtmdmjbpehbjgpaaSet
import Derived.Test.YtmdmjbpehbjgpaaApp
import Derived.Test.YtmdmjbpehbjgpaaJoin
import Derived.Test.YtmdmjbpehbjgpaaFrom
namespace Go.Proofs.Ytmdmjbpehbjgpaa
open Go.RowKit Num Bit

/-- A box of two cells. -/
def Box (w : World) (b : Nat) (u v : Value) : Prop := b < w.heap.size ∧ w.cell? ⟨b, 0, none⟩ = some u ∧ w.cell? ⟨b, 1, none⟩ = some v
theorem Box.keep {w w' : World} {b : Nat} {u v : Value} (h : Box w b u v) (hb : Below w.heap.size w w') : Box w' b u v :=
  ⟨Nat.lt_of_lt_of_le h.1 hb.size, (hb.cell (p := ⟨b, 0, none⟩) h.1).trans h.2.1, (hb.cell (p := ⟨b, 1, none⟩) h.1).trans h.2.2⟩
theorem Box.new {w w' : World} {u v : Value} {T : TypeId} (hb : Below (w.alloc (.cells #[u, v] T)).heap.size (w.alloc (.cells #[u, v] T)) w') : Box w' w.heap.size u v :=
  let k := box_cells hb
  ⟨k.2.2.1, k.1, k.2.1⟩

theorem Box.new2 {w w' : World} {u v x y : Value} {T U : TypeId} (hb : Below ((w.alloc (.cells #[u, v] T)).alloc (.cells #[x, y] U)).heap.size ((w.alloc (.cells #[u, v] T)).alloc (.cells #[x, y] U)) w') : Box w' w.heap.size u v ∧ Box w' (w.heap.size + 1) x y :=
  let k := box2_cells rfl hb
  ⟨⟨by have := k.2.2.2.1; omega, k.1.1, k.1.2⟩, ⟨k.2.2.2.1, k.2.1.1, k.2.1.2⟩⟩

theorem fit1 (v : Nat) (h : v < 18446744073709551616) : Fit [v] := by
  intro i
  cases i with
  | zero => exact h
  | succ i => exact (by decide : (0 : Nat) < 18446744073709551616)
theorem fit0 : Fit [] := fun _ => (by decide : (0 : Nat) < 18446744073709551616)
theorem wd0 (w : World) (ao : Option Addr) : Wd w ao [] := fun h => absurd h (by simp)

theorem hd_app (w : World) : Calls Try.prog 43 #[.agg #[.int .i64 0, .slice none 0 0], .int .u64 5, .int .i64 3] w fun e w' => ∃ bo dap, e = .returned (.tuple #[.agg #[.int .i64 3, .slice bo 1 dap], .int .i64 0]) ∧ Out w w' bo [5] dap := by
  have h := app_c 0 none [] 0 5 3 w (wd0 _ _) fit0 (by decide) (by decide)
  rw [show appN 0 [] 3 = 3 by decide +kernel, show appL 0 [] 5 3 = [5] by decide +kernel, show appE 0 [] 3 = 0 by decide +kernel] at h
  exact h
theorem hd_slice (w : World) (ao : Option Addr) (cap : Nat) (hx : Wd w ao [7]) : Calls Try.prog 39 #[.agg #[.int .i64 3, .slice ao 1 cap], .int .i64 1, .int .i64 2] w fun e w' => e = .returned (.tuple #[.int .u64 3, .int .i64 0]) ∧ Below w.heap.size w w' := by
  have h := slice_c 3 ao [7] cap 1 2 w hx (fit1 7 (by decide)) (by decide) (by decide) (by decide) (by decide)
  rw [show slcX 3 [7] 1 2 = 3 by decide +kernel, show slcE 3 [7] 1 2 = 0 by decide +kernel] at h
  exact h
theorem hd_get3 (w : World) (ao : Option Addr) (cap : Nat) (hx : Wd w ao [7]) : Calls Try.prog 25 #[.agg #[.int .i64 3, .slice ao 1 cap], .int .i64 3] w fun e w' => e = .returned (.tuple #[.bool false, .int .i64 3]) ∧ Below w.heap.size w w' := by
  have h := get_c 3 ao [7] cap 3 w hx (fit1 7 (by decide))
  rw [show getB 3 [7] 3 = false by decide +kernel, show getE 3 [7] 3 = 3 by decide +kernel] at h
  exact h
theorem hd_join (w : World) (ao : Option Addr) (cap : Nat) (bo : Option Addr) (dap : Nat) (hx : Wd w ao [5]) (hy : Wd w bo [7]) : Calls Try.prog 28 #[.agg #[.int .i64 3, .slice ao 1 cap], .agg #[.int .i64 3, .slice bo 1 dap]] w fun e w' => ∃ co eap, e = .returned (.tuple #[.agg #[.int .i64 6, .slice co 1 eap], .int .i64 0]) ∧ Out w w' co [61] eap := by
  have h := join_c 3 ao [5] cap 3 bo [7] dap w hx hy (fit1 5 (by decide)) (fit1 7 (by decide)) (by decide)
  rw [show joinN 3 [5] 3 [7] = 6 by decide +kernel, show joinL 3 [5] 3 [7] = [61] by decide +kernel, show joinE 3 [5] 3 [7] = 0 by decide +kernel] at h
  exact h
theorem hd_get2 (w : World) (ao : Option Addr) (cap : Nat) (hx : Wd w ao [5]) : Calls Try.prog 25 #[.agg #[.int .i64 3, .slice ao 1 cap], .int .i64 2] w fun e w' => e = .returned (.tuple #[.bool true, .int .i64 0]) ∧ Below w.heap.size w w' := by
  have h := get_c 3 ao [5] cap 2 w hx (fit1 5 (by decide))
  rw [show getB 3 [5] 2 = true by decide +kernel, show getE 3 [5] 2 = 0 by decide +kernel] at h
  exact h
theorem hd_same (w : World) (ao : Option Addr) (cap : Nat) (bo : Option Addr) (dap : Nat) (hx : Wd w ao [5]) (hy : Wd w bo [5]) : Calls Try.prog 19 #[.agg #[.int .i64 3, .slice ao 1 cap], .agg #[.int .i64 3, .slice bo 1 dap]] w fun e w' => e = .returned (.bool true) ∧ Below w.heap.size w w' := by
  have h := same_c 3 ao [5] cap 3 bo [5] dap w hx hy (by decide)
  rw [show (decide ((3 : Int) = 3) && decide (([5] : List Nat) = [5])) = true by decide] at h
  exact h
theorem hd_check6 (w : World) (ao : Option Addr) (cap : Nat) (hx : Wd w ao [61]) : Calls Try.prog 37 #[.agg #[.int .i64 6, .slice ao 1 cap]] w fun e w' => e = .returned (.bool true) ∧ Below w.heap.size w w' := by
  have h := check_c 6 ao [61] cap w hx
  rw [show chk 6 [61] = true by decide +kernel] at h
  exact h
theorem hd_check1 (w : World) : Calls Try.prog 37 #[.agg #[.int .i64 1, .slice none 0 0]] w fun e w' => e = .returned (.bool false) ∧ Below w.heap.size w w' := by
  have h := check_c 1 none [] 0 w (wd0 _ _)
  rw [show chk 1 [] = false by decide +kernel] at h
  exact h
end Go.Proofs.Ytmdmjbpehbjgpaa
